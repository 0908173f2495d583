/-
  graph.Of and monitor.New once more: what they make lies in new memory.
-/
import Derived.Test.YthhbbhijpkoelaaDoorMq
import Derived.Test.YthhbbhijpkoelaaDoorMi
import Derived.Test.YthhbbhijpkoelaaDoorQd
import Derived.Test.YthhbbhijpkoelaaDoorMm
import Derived.Test.YthhbbhijpkoelaaDoorIq
namespace Go.Proofs.YthhbbhijpkoelaaDoor
open Go.RowKit Go.Shelf

def OXPost (t : Ty) (w : World) (e : Ending) (w' : World) : Prop :=
  ((chkTy t ≠ 0 ∧ e = .returned (.tuple #[.slice none 0 0, .int .i64 (chkTy t)])) ∨ (∃ g ag cg, OFG t g ∧ e = .returned (.tuple #[.slice ag g.length cg, .int .i64 0]) ∧ GAx w w' g ag)) ∧ Below w.heap.size w w'
theorem GAx.low {w v W : World} {g : List Nd} {ag : Option Addr} (h : GAx v W g ag) (hw : w.heap.size ≤ v.heap.size) : GAx w W g ag :=
  h.imp id fun ⟨b, o, e, hl, hc⟩ => ⟨b, o, e, ⟨by omega, hl.2⟩, fun i hi => by
    obtain ⟨al, cl, at1, ct, h1, h2, h3⟩ := hc i hi
    exact ⟨al, cl, at1, ct, h1, h2.keep (fun _ _ _ => rfl) (fun b hb => ⟨by omega, hb.2⟩), h3.keep (fun _ _ _ => rfl) (fun b hb => ⟨by omega, hb.2⟩)⟩⟩
set_option maxRecDepth 100000 in
set_option maxHeartbeats 2000000 in
theorem ofX_any (d : Nat) (t : Ty) (al : Option Addr) (cl : Nat) (ak : Option Addr) (ck : Nat) (w : World) (hbd : TyBd t cl ck) (hla : LA w w.heap.size t.labels al) (hkt : KT w w.heap.size d t.kids ak) :
    Calls Tryd.prog 13 #[tyVal t al cl ak ck] w (OXPost t w) := by
  have hA : Below w.heap.size w (w.alloc (.cells #[.int .i64 t.kind, .int .i64 t.so, .string t.name, .slice al t.labels.length cl, .slice ak t.kids.length ck] 25)) := (Below.refl _ _).alloc (Nat.le_refl _) _
  have cC := typesCheck_any d t al cl ak ck _ hbd (NAt.mono hA.size (NAt.keep hA hla)) (KT.mono hA.size (KT.keep hA hkt))
  have HA := hideK hA
  unfold OXPost
  by_cases hz : chkTy t = 0
  · rw [hz] at cC
    obtain ⟨hw, hsz⟩ := chkTy_good t hz
    have CW := hideK (fun (W : World) (hb : Below w.heap.size w W) => laid_any d t al cl ak ck W hbd ((hla.keep hb).mono hb.size) ((hkt.keep hb).mono hb.size) hw hsz)
    have CL := hideK (fun (W : World) ag cg (hga : GAt W W.heap.size (layP t [] 0).2 ag) => least_loopX (layP t [] 0).2 ag cg W.heap.size W (lay_gn hz).gr hga (Nat.le_refl _))
    simp only [tyVal] at cC CW ⊢
    have HZ := hideK hz
    clear hbd hla hkt hz hw hsz hA
    go_enter Tryd.func13, Tryd.ntmps13
    go_wp2_with fail
    refine cC.mono ?_
    rintro e w1 ⟨rfl, hb1⟩
    obtain ⟨x0, x1, x2, x3, x4, hbw⟩ := keep5 hb1
    have cW := CW.out w1 hbw
    have HB := hideK hbw
    clear cC CW hbw
    go_wp2_with fail
    refine cW.mono ?_
    rintro e w2 ⟨⟨ag, cg, rfl, hga⟩, hb2⟩
    have cL := CL.out w2 ag cg hga
    have HB2 := hideK (HB.out.trans (hb2.mono HB.out.size))
    clear cW CL hga hb2
    generalize hG : (layP t [] 0).2 = G at *
    go_wp2_with fail
    refine cL.mono ?_
    rintro e w3 ⟨⟨c, hc, ao, co, rfl, hg3⟩, hb3⟩
    have HB3 := hideK (HB2.out.trans (hb3.mono HB2.out.size))
    have HC := hideK hc
    have HG3 := hideK (hg3.low (w := w) HB2.out.size)
    clear cL hc hg3 hb3
    generalize hgl : leastG G c = g at *
    go_wp2_with fail
    go_ret2
    exact ⟨.inr ⟨g, _, _, ⟨HZ.out, c, by rw [hG]; exact HC.out, by rw [hG]; exact hgl.symm⟩, rfl, HG3.out⟩, HB3.out⟩
  · have hzb : (chkTy t != 0) = true := by simpa using hz
    simp only [tyVal] at cC ⊢
    have HZ := hideK hz
    clear hbd hla hkt hz hA
    generalize hgz : chkTy t = z at cC hzb ⊢
    go_enter Tryd.func13, Tryd.ntmps13
    go_wp2_with fail
    refine cC.mono ?_
    rintro e w1 ⟨rfl, hb1⟩
    obtain ⟨x0, x1, x2, x3, x4, hbw⟩ := keep5 hb1
    clear cC
    go_wp2_with fail
    go_ret2
    exact ⟨.inl ⟨by rw [← hgz]; exact HZ.out, rfl⟩, hbw⟩
/-- what monitor.New answers -/
def NXPost (t : Ty) (w : World) (e : Ending) (w' : World) : Prop :=
  ((chkTy t ≠ 0 ∧ e = .returned (.tuple #[.pointer none, .int .i64 (chkTy t)])) ∨ (∃ g ag cg mb, OFG t g ∧ e = .returned (.tuple #[.pointer (some ⟨mb, 0, none⟩), .int .i64 0]) ∧ MN mb g.length ag cg 0 0 0 w' ∧ w.heap.size ≤ mb ∧ ∃ W, GAx w W g ag ∧ W.heap.size ≤ mb ∧ (∀ b, b < W.heap.size → w'.heap[b]? = W.heap[b]?))) ∧ Below w.heap.size w w'
set_option maxRecDepth 100000 in
set_option maxHeartbeats 4000000 in
theorem newX_any (d : Nat) (t : Ty) (al : Option Addr) (cl : Nat) (ak : Option Addr) (ck : Nat) (w : World) (hbd : TyBd t cl ck) (hla : LA w w.heap.size t.labels al) (hkt : KT w w.heap.size d t.kids ak) :
    Calls Tryd.prog 4 #[tyVal t al cl ak ck] w (NXPost t w) := by
  unfold NXPost
  have hA : Below w.heap.size w (w.alloc (.cells #[.int .i64 t.kind, .int .i64 t.so, .string t.name, .slice al t.labels.length cl, .slice ak t.kids.length ck] 25)) := (Below.refl _ _).alloc (Nat.le_refl _) _
  have c1 := ofX_any d t al cl ak ck (w.alloc (.cells #[.int .i64 t.kind, .int .i64 t.so, .string t.name, .slice al t.labels.length cl, .slice ak t.kids.length ck] 25)) hbd ((hla.keep hA).mono hA.size) ((hkt.keep hA).mono hA.size)
  have HA := hideK hA
  unfold OXPost at c1
  simp only [tyVal] at c1 ⊢
  clear hbd hla hkt hA
  go_enter Tryd.func4, Tryd.ntmps4
  go_wp2_with fail
  refine c1.mono ?_
  rintro e w1 ⟨hor, hb1⟩
  have HB1 := hideK (HA.out.trans (hb1.mono HA.out.size))
  have HLW := hideK HA.out.size
  clear c1 hb1 HA
  rcases hor with ⟨hz, rfl⟩ | ⟨g, ag, cg, hg, rfl, hga⟩
  · have hzb : (chkTy t != 0) = true := by simpa using hz
    have HZ := hideK hz
    clear hz
    go_wp2_with fail
    go_ret2
    exact ⟨.inl ⟨HZ.out, rfl⟩, HB1.out⟩
  · have HG := hideK hg
    have HM := hideK (show MN w1.heap.size g.length ag cg 0 0 0 (w1.alloc (.cells #[.slice ag g.length cg, .int .i64 0, .int .i64 0, .int .i64 0] 51)) from ⟨by go_cell, by go_cell, by go_cell, by go_cell, fun o => by go_simp, by simp⟩)
    have HGA := hideK (hga.low (w := w) HLW.out)
    have HKX := hideK (show ∀ b, b < w1.heap.size → (w1.alloc (.cells #[.slice ag g.length cg, .int .i64 0, .int .i64 0, .int .i64 0] 51)).heap[b]? = w1.heap[b]? from fun b hb => heap_alloc_old w1 _ hb)
    have HB2 := hideK (HB1.out.alloc HB1.out.size (.cells #[.slice ag g.length cg, .int .i64 0, .int .i64 0, .int .i64 0] 51))
    have hsz := HB1.out.size
    clear hg hga
    go_wp2_with fail
    go_ret2
    exact ⟨.inr ⟨g, ag, cg, w1.heap.size, HG.out, rfl, HM.out, hsz, w1, HGA.out, Nat.le_refl _, HKX.out⟩, HB2.out⟩
end Go.Proofs.YthhbbhijpkoelaaDoor
/-
  The memory of duetkeep.MonitorBlame: both types in their boxes, the monitor, and types that are made while orders are open.
-/
namespace Go.Proofs.YthhbbhijpkoelaaDoor
open Go.RowKit Go.Shelf

/-- where the parts of both types lie: below L, and in none of the boxes -/
def PSB (w : World) (mb L : Nat) (b : Nat) : Prop := b < L ∧ b ≠ w.heap.size ∧ b ≠ w.heap.size + 1 ∧ b ≠ mb
/-- a type in its box -/
structure TBB (W : World) (P : Nat → Prop) (b : Nat) (m : Ty) (al : Option Addr) (cl : Nat) (ak : Option Addr) (ck d : Nat) : Prop where
  a : TyAt W b 0 m al cl ak ck
  bd : TyBd m cl ck
  lp : LP W P m.labels al
  kp : KP W P d m.kids ak
/-- the monitor's graph, in blocks behind both boxes -/
def GZ (w : World) (B : Nat) (g : List Nd) (ag : Option Addr) (W : World) : Prop := ∃ v Wh : World, GAx v Wh g ag ∧ w.heap.size + 1 < v.heap.size ∧ Wh.heap.size ≤ B ∧ ∀ b, v.heap.size ≤ b → b < Wh.heap.size → W.heap[b]? = Wh.heap[b]?
theorem GZ.gat {w : World} {B : Nat} {g : List Nd} {ag : Option Addr} {W : World} (h : GZ w B g ag W) : GAt W B g ag := by
  obtain ⟨v, Wh, h1, _, h3, h4⟩ := h
  exact (h1.gat2 h4).mono h3
theorem GZ.keep {w : World} {B : Nat} {g : List Nd} {ag : Option Addr} {W W' : World} (h : GZ w B g ag W) (hk : ∀ b, w.heap.size + 1 < b → b < B → W'.heap[b]? = W.heap[b]?) : GZ w B g ag W' := by
  obtain ⟨v, Wh, h1, h2, h3, h4⟩ := h
  exact ⟨v, Wh, h1, h2, h3, fun b q1 q2 => (hk b (by omega) (by omega)).trans (h4 b q1 q2)⟩
/-- both types in their boxes, and the monitor -/
structure BMW (w : World) (mb L : Nat) (g : List Nd) (ag : Option Addr) (cg B i : Nat) (dn : Int) (S : Ty) (sal : Option Addr) (scl : Nat) (sak : Option Addr) (sck sd : Nat) (T : Ty) (tal : Option Addr) (tcl : Nat) (tak : Option Addr) (tck td : Nat) (W : World) : Prop where
  x : TBB W (PSB w mb L) w.heap.size S sal scl sak sck sd
  y : TBB W (PSB w mb L) (w.heap.size + 1) T tal tcl tak tck td
  m : MN mb g.length ag cg i dn 0 W
  ga : GZ w B g ag W
  fx : ∀ o, W.frozen? ⟨w.heap.size, o, none⟩ = false
  fy : ∀ o, W.frozen? ⟨w.heap.size + 1, o, none⟩ = false
  lo : w.heap.size + 1 < mb ∧ mb < L ∧ L ≤ W.heap.size
  hB : B ≤ mb
  bl : Below w.heap.size w W
theorem TBB.keep {W W' : World} {P Q : Nat → Prop} {b : Nat} {m : Ty} {al : Option Addr} {cl : Nat} {ak : Option Addr} {ck d : Nat} (h : TBB W P b m al cl ak ck d) (hc : ∀ c o, (c = b ∨ P c) → W'.cell? ⟨c, o, none⟩ = W.cell? ⟨c, o, none⟩) (hq : ∀ c, P c → Q c) : TBB W' Q b m al cl ak ck d :=
  ⟨⟨(hc _ _ (.inl rfl)).trans h.a.c0, (hc _ _ (.inl rfl)).trans h.a.c1, (hc _ _ (.inl rfl)).trans h.a.c2, (hc _ _ (.inl rfl)).trans h.a.c3, (hc _ _ (.inl rfl)).trans h.a.c4⟩, h.bd, h.lp.keep (fun c o hp => hc c o (.inr hp)) hq, h.kp.keep (fun c o hp => hc c o (.inr hp)) hq⟩
section
variable {w : World} {mb L : Nat} {g : List Nd} {ag : Option Addr} {cg B i : Nat} {dn : Int} {S : Ty} {sal : Option Addr} {scl : Nat} {sak : Option Addr} {sck sd : Nat} {T : Ty} {tal : Option Addr} {tcl : Nat} {tak : Option Addr} {tck td : Nat} {W : World}
theorem BMW.keep (h : BMW w mb L g ag cg B i dn S sal scl sak sck sd T tal tcl tak tck td W) {W' : World} (hb : Below W.heap.size W W') : BMW w mb L g ag cg B i dn S sal scl sak sck sd T tal tcl tak tck td W' := by
  have hl := h.lo
  have hB := h.hB
  refine ⟨h.x.keep (fun c o hc => hb.cell (p := ⟨c, o, none⟩) ?_) (fun _ q => q), h.y.keep (fun c o hc => hb.cell (p := ⟨c, o, none⟩) ?_) (fun _ q => q), h.m.keep hb, h.ga.keep (fun b q1 q2 => hb.block b (by omega)), fun o => (hb.frozen (p := ⟨w.heap.size, o, none⟩) (by show w.heap.size < _; omega)).trans (h.fx o), fun o => (hb.frozen (p := ⟨w.heap.size + 1, o, none⟩) (by show w.heap.size + 1 < _; omega)).trans (h.fy o), ⟨hl.1, hl.2.1, Nat.le_trans hl.2.2 hb.size⟩, hB, h.bl.trans (hb.mono h.bl.size)⟩
  · rcases hc with rfl | hc
    · show w.heap.size < _; omega
    · exact Nat.lt_of_lt_of_le hc.1 hl.2.2
  · rcases hc with rfl | hc
    · show w.heap.size + 1 < _; omega
    · exact Nat.lt_of_lt_of_le hc.1 hl.2.2
theorem BMW.al (h : BMW w mb L g ag cg B i dn S sal scl sak sck sd T tal tcl tak tck td W) (o : Obj) : BMW w mb L g ag cg B i dn S sal scl sak sck sd T tal tcl tak tck td (W.alloc o) := h.keep ((Below.refl _ _).alloc (Nat.le_refl _) _)
theorem BMW.st (h : BMW w mb L g ag cg B i dn S sal scl sak sck sd T tal tcl tak tck td W) {b : Nat} (hb : L ≤ b) (v0 v1 v2 v3 v4 : Value) : BMW w mb L g ag cg B i dn S sal scl sak sck sd T tal tcl tak tck td (st5 W b 0 v0 v1 v2 v3 v4) := by
  have hl := h.lo
  have hB := h.hB
  have hc : ∀ c o, c < L → (st5 W b 0 v0 v1 v2 v3 v4).cell? ⟨c, o, none⟩ = W.cell? ⟨c, o, none⟩ := fun c o q => st5_other _ _ _ _ _ _ _ _ _ _ (.inl (by omega))
  have hf : ∀ p, (st5 W b 0 v0 v1 v2 v3 v4).frozen? p = W.frozen? p := fun p => by unfold st5; simp only [World.frozen?_setCell]
  have hblk : ∀ c, c ≠ b → (st5 W b 0 v0 v1 v2 v3 v4).heap[c]? = W.heap[c]? := fun c hne => by
    unfold st5
    rw [Below.heap_setCell _ _ _ c hne, Below.heap_setCell _ _ _ c hne, Below.heap_setCell _ _ _ c hne, Below.heap_setCell _ _ _ c hne, Below.heap_setCell _ _ _ c hne]
  refine ⟨h.x.keep (fun c o q => hc c o ?_) (fun _ q => q), h.y.keep (fun c o q => hc c o ?_) (fun _ q => q), h.m.blk (hblk mb (by omega)) (by rw [st5_size]; exact Nat.le_refl _), ?_, fun o => (hf _).trans (h.fx o), fun o => (hf _).trans (h.fy o), ⟨hl.1, hl.2.1, by rw [st5_size]; exact hl.2.2⟩, hB, st5_below _ 0 _ _ _ _ _ h.bl (by omega)⟩
  · rcases q with rfl | q
    · omega
    · exact q.1
  · rcases q with rfl | q
    · omega
    · exact q.1
  · exact h.ga.keep fun c q1 q2 => hblk c (by omega)
end
/-- a type that is made: its parts lie where P holds, or in new blocks that are none of the list's -/
structure TVB (W : World) (P : Nat → Prop) (L : Nat) (bs : List Nat) (m : Ty) (al : Option Addr) (cl : Nat) (ak : Option Addr) (ck d : Nat) : Prop where
  bd : TyBd m cl ck
  lp : LP W (fun b => P b ∨ (L ≤ b ∧ b < W.heap.size ∧ b ∉ bs)) m.labels al
  kp : KP W (fun b => P b ∨ (L ≤ b ∧ b < W.heap.size ∧ b ∉ bs)) d m.kids ak
section
variable {W : World} {P : Nat → Prop} {L : Nat} {bs : List Nat} {m : Ty} {al : Option Addr} {cl : Nat} {ak : Option Addr} {ck d : Nat}
theorem TVB.keep (h : TVB W P L bs m al cl ak ck d) (hP : ∀ b, P b → b < L) (hL : L ≤ W.heap.size) {W' : World} (hb : Below W.heap.size W W') : TVB W' P L bs m al cl ak ck d := by
  have k : ∀ b o, (P b ∨ (L ≤ b ∧ b < W.heap.size ∧ b ∉ bs)) → W'.cell? ⟨b, o, none⟩ = W.cell? ⟨b, o, none⟩ := fun b o q => hb.cell (p := ⟨b, o, none⟩) (by
    rcases q with q | q
    · exact Nat.lt_of_lt_of_le (hP b q) hL
    · exact q.2.1)
  have q : ∀ b, (P b ∨ (L ≤ b ∧ b < W.heap.size ∧ b ∉ bs)) → (P b ∨ (L ≤ b ∧ b < W'.heap.size ∧ b ∉ bs)) := fun b q => q.imp id fun q => ⟨q.1, Nat.lt_of_lt_of_le q.2.1 hb.size, q.2.2⟩
  exact ⟨h.bd, h.lp.keep k q, h.kp.keep k q⟩
theorem TVB.box (h : TVB W P L bs m al cl ak ck d) (hP : ∀ b, P b → b < L) (hL : L ≤ W.heap.size) (o : Obj) : TVB (W.alloc o) P L (W.heap.size :: bs) m al cl ak ck d := by
  have hb : Below W.heap.size W (W.alloc o) := (Below.refl _ _).alloc (Nat.le_refl _) _
  have k : ∀ b o', (P b ∨ (L ≤ b ∧ b < W.heap.size ∧ b ∉ bs)) → (W.alloc o).cell? ⟨b, o', none⟩ = W.cell? ⟨b, o', none⟩ := fun b o' q => hb.cell (p := ⟨b, o', none⟩) (by
    rcases q with q | q
    · exact Nat.lt_of_lt_of_le (hP b q) hL
    · exact q.2.1)
  have q : ∀ b, (P b ∨ (L ≤ b ∧ b < W.heap.size ∧ b ∉ bs)) → (P b ∨ (L ≤ b ∧ b < (W.alloc o).heap.size ∧ b ∉ W.heap.size :: bs)) := fun b q => q.imp id fun q => ⟨q.1, Nat.lt_of_lt_of_le q.2.1 hb.size, fun hm => by
    rcases List.mem_cons.1 hm with e | e
    · omega
    · exact q.2.2 e⟩
  exact ⟨h.bd, h.lp.keep k q, h.kp.keep k q⟩
theorem TVB.st (h : TVB W P L bs m al cl ak ck d) (hP : ∀ b, P b → b < L) {b : Nat} (hb : b ∈ bs) (hl : L ≤ b) (v0 v1 v2 v3 v4 : Value) : TVB (st5 W b 0 v0 v1 v2 v3 v4) P L bs m al cl ak ck d := by
  have k : ∀ c o, (P c ∨ (L ≤ c ∧ c < W.heap.size ∧ c ∉ bs)) → (st5 W b 0 v0 v1 v2 v3 v4).cell? ⟨c, o, none⟩ = W.cell? ⟨c, o, none⟩ := fun c o hc => st5_other _ _ _ _ _ _ _ _ _ _ (.inl fun e => by
    rcases hc with q | q
    · have := hP c q; omega
    · exact q.2.2 (e ▸ hb))
  have q : ∀ c, (P c ∨ (L ≤ c ∧ c < W.heap.size ∧ c ∉ bs)) → (P c ∨ (L ≤ c ∧ c < (st5 W b 0 v0 v1 v2 v3 v4).heap.size ∧ c ∉ bs)) := fun c hc => hc.imp id fun q => ⟨q.1, by rw [st5_size]; exact q.2.1, q.2.2⟩
  exact ⟨h.bd, h.lp.keep k q, h.kp.keep k q⟩
theorem tvb_new {V : World} (bs : List Nat) (hbs : ∀ b ∈ bs, b < V.heap.size) (hL : L ≤ V.heap.size) (h1 : TyBd m cl ck) (h2 : LP W (NW P V W) m.labels al) (h3 : KP W (NW P V W) d m.kids ak) : TVB W P L bs m al cl ak ck d := by
  have q : ∀ c, NW P V W c → (P c ∨ (L ≤ c ∧ c < W.heap.size ∧ c ∉ bs)) := fun c hc => hc.imp id fun hc => ⟨by omega, hc.2, fun hm => by have := hbs c hm; omega⟩
  exact ⟨h1, h2.keep (fun _ _ _ => rfl) q, h3.keep (fun _ _ _ => rfl) q⟩
end
/-- a new box -/
structure BX5 (L : Nat) (W : World) (b : Nat) : Prop where
  lo : L ≤ b
  lt : b < W.heap.size
  c0 : W.cell? ⟨b, 0, none⟩ = some (.int .i64 0)
  c1 : W.cell? ⟨b, 1, none⟩ = some (.int .i64 0)
  c2 : W.cell? ⟨b, 2, none⟩ = some (.string ⟨#[]⟩)
  c3 : W.cell? ⟨b, 3, none⟩ = some (.slice none 0 0)
  c4 : W.cell? ⟨b, 4, none⟩ = some (.slice none 0 0)
  f : ∀ o, W.frozen? ⟨b, o, none⟩ = false
theorem BX5.keep {L : Nat} {W W' : World} {b : Nat} (h : BX5 L W b) (hb : Below W.heap.size W W') : BX5 L W' b :=
  ⟨h.lo, Nat.lt_of_lt_of_le h.lt hb.size, (hb.cell (p := ⟨b, 0, none⟩) h.lt).trans h.c0, (hb.cell (p := ⟨b, 1, none⟩) h.lt).trans h.c1, (hb.cell (p := ⟨b, 2, none⟩) h.lt).trans h.c2, (hb.cell (p := ⟨b, 3, none⟩) h.lt).trans h.c3, (hb.cell (p := ⟨b, 4, none⟩) h.lt).trans h.c4, fun o => (hb.frozen (p := ⟨b, o, none⟩) h.lt).trans (h.f o)⟩
theorem BX5.al {L : Nat} {W : World} {b : Nat} (h : BX5 L W b) (o : Obj) : BX5 L (W.alloc o) b := h.keep ((Below.refl _ _).alloc (Nat.le_refl _) _)
theorem BX5.new {L : Nat} {W : World} (h : L ≤ W.heap.size) : BX5 L (W.alloc (.cells #[.int .i64 0, .int .i64 0, .string ⟨#[]⟩, .slice none 0 0, .slice none 0 0] 25)) W.heap.size :=
  ⟨h, by simp, by go_cell, by go_cell, by go_cell, by go_cell, by go_cell, fun o => by go_simp⟩
theorem BX5.st {L : Nat} {W : World} {b : Nat} (h : BX5 L W b) {b' : Nat} (hn : b ≠ b') (v0 v1 v2 v3 v4 : Value) : BX5 L (st5 W b' 0 v0 v1 v2 v3 v4) b :=
  ⟨h.lo, by rw [st5_size]; exact h.lt, (st5_other _ _ _ _ _ _ _ _ _ _ (.inl hn)).trans h.c0, (st5_other _ _ _ _ _ _ _ _ _ _ (.inl hn)).trans h.c1, (st5_other _ _ _ _ _ _ _ _ _ _ (.inl hn)).trans h.c2, (st5_other _ _ _ _ _ _ _ _ _ _ (.inl hn)).trans h.c3, (st5_other _ _ _ _ _ _ _ _ _ _ (.inl hn)).trans h.c4, fun o => by unfold st5; simp only [World.frozen?_setCell]; exact h.f o⟩
theorem BX5.ty {L : Nat} {W : World} {b : Nat} (h : BX5 L W b) (q : Ty) (a1 : Option Addr) (c1 : Nat) (a2 : Option Addr) (c2 : Nat) : TyAt (st5 W b 0 (.int .i64 q.kind) (.int .i64 q.so) (.string q.name) (.slice a1 q.labels.length c1) (.slice a2 q.kids.length c2)) b 0 q a1 c1 a2 c2 :=
  st5_at W _ 0 q a1 c1 a2 c2 (fun j hj => by
    rw [Nat.zero_add]
    have : j = 0 ∨ j = 1 ∨ j = 2 ∨ j = 3 ∨ j = 4 := by omega
    rcases this with rfl | rfl | rfl | rfl | rfl
    · exact ⟨_, h.c0⟩
    · exact ⟨_, h.c1⟩
    · exact ⟨_, h.c2⟩
    · exact ⟨_, h.c3⟩
    · exact ⟨_, h.c4⟩)
theorem tyAt_stB {W : World} {c b : Nat} (hc : c ≠ b) (v0 v1 v2 v3 v4 : Value) {q : Ty} {a1 : Option Addr} {c1 : Nat} {a2 : Option Addr} {c2 : Nat} (e : TyAt W c 0 q a1 c1 a2 c2) : TyAt (st5 W b 0 v0 v1 v2 v3 v4) c 0 q a1 c1 a2 c2 :=
  ⟨(st5_other _ _ _ _ _ _ _ _ _ _ (.inl hc)).trans e.c0, (st5_other _ _ _ _ _ _ _ _ _ _ (.inl hc)).trans e.c1, (st5_other _ _ _ _ _ _ _ _ _ _ (.inl hc)).trans e.c2, (st5_other _ _ _ _ _ _ _ _ _ _ (.inl hc)).trans e.c3, (st5_other _ _ _ _ _ _ _ _ _ _ (.inl hc)).trans e.c4⟩
end Go.Proofs.YthhbbhijpkoelaaDoor
