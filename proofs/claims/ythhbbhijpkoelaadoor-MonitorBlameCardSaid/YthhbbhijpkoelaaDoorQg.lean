/-
  The memory of duetkeep.MonitorBlame through a round: what Take leaves, and what is next; duetref.Pick.
-/
import Derived.Test.YthhbbhijpkoelaaDoorQe
namespace Go.Proofs.YthhbbhijpkoelaaDoor
open Go.RowKit Go.Shelf

/-- where the parts lie of what both types are outermost -/
def QPB (w : World) (mb L ox oy M : Nat) (b : Nat) : Prop := PSB w mb L b ∨ (L ≤ b ∧ b < M ∧ b ≠ ox ∧ b ≠ oy)
theorem tbb_of {w W : World} {mb L ox oy : Nat} {bs : List Nat} {m : Ty} {al : Option Addr} {cl : Nat} {ak : Option Addr} {ck d b : Nat} (h : TVB W (PSB w mb L) L bs m al cl ak ck d) (ha : TyAt W b 0 m al cl ak ck) (hb : ox ∈ bs ∧ oy ∈ bs) : TBB W (QPB w mb L ox oy W.heap.size) b m al cl ak ck d := by
  have q : ∀ c, (PSB w mb L c ∨ (L ≤ c ∧ c < W.heap.size ∧ c ∉ bs)) → QPB w mb L ox oy W.heap.size c := fun c hc => hc.imp id fun q => ⟨q.1, q.2.1, fun e => q.2.2 (e ▸ hb.1), fun e => q.2.2 (e ▸ hb.2)⟩
  exact ⟨ha, h.bd, h.lp.keep (fun _ _ _ => rfl) q, h.kp.keep (fun _ _ _ => rfl) q⟩
structure RND (w : World) (mb L : Nat) (g : List Nd) (ag : Option Addr) (cg B i : Nat) (dn : Int) (S : Ty) (sal : Option Addr) (scl : Nat) (sak : Option Addr) (sck sd : Nat) (T : Ty) (tal : Option Addr) (tcl : Nat) (tak : Option Addr) (tck td : Nat) (ox oy : Nat) (A : Ty) (aal : Option Addr) (acl : Nat) (aak : Option Addr) (ack ad : Nat) (Bt : Ty) (bal : Option Addr) (bcl : Nat) (bak : Option Addr) (bck bd M : Nat) (W : World) : Prop where
  m : BMW w mb L g ag cg B i dn S sal scl sak sck sd T tal tcl tak tck td W
  x : TBB W (QPB w mb L ox oy M) ox A aal acl aak ack ad
  y : TBB W (QPB w mb L ox oy M) oy Bt bal bcl bak bck bd
  ne : ox ≠ oy
  lx : L ≤ ox ∧ ox < M
  ly : L ≤ oy ∧ oy < M
  lm : L ≤ M ∧ M ≤ W.heap.size
theorem QPB.lt {w : World} {mb L ox oy M : Nat} {b : Nat} (hL : L ≤ M) (h : QPB w mb L ox oy M b) : b < M := by
  rcases h with h | h
  · exact Nat.lt_of_lt_of_le h.1 hL
  · exact h.2.1
theorem QPB.ne {w : World} {mb L ox oy M : Nat} {b : Nat} (hl : w.heap.size + 1 < mb ∧ mb < L) (h : QPB w mb L ox oy M b) : b ≠ mb ∧ b ≠ w.heap.size ∧ b ≠ w.heap.size + 1 := by
  rcases h with h | h
  · exact ⟨h.2.2.2, h.2.1, h.2.2.1⟩
  · omega
theorem tyAt_any {W : World} {c b o : Nat} {v0 v1 v2 v3 v4 : Value} (hc : c ≠ b) {q : Ty} {a1 : Option Addr} {c1 : Nat} {a2 : Option Addr} {c2 : Nat} (e : TyAt W c o q a1 c1 a2 c2) : TyAt (st5 W b 0 v0 v1 v2 v3 v4) c o q a1 c1 a2 c2 :=
  ⟨(st5_other _ _ _ _ _ _ _ _ _ _ (.inl hc)).trans e.c0, (st5_other _ _ _ _ _ _ _ _ _ _ (.inl hc)).trans e.c1, (st5_other _ _ _ _ _ _ _ _ _ _ (.inl hc)).trans e.c2, (st5_other _ _ _ _ _ _ _ _ _ _ (.inl hc)).trans e.c3, (st5_other _ _ _ _ _ _ _ _ _ _ (.inl hc)).trans e.c4⟩
section
variable {w : World} {mb L : Nat} {g : List Nd} {ag : Option Addr} {cg B i : Nat} {dn : Int} {S : Ty} {sal : Option Addr} {scl : Nat} {sak : Option Addr} {sck sd : Nat} {T : Ty} {tal : Option Addr} {tcl : Nat} {tak : Option Addr} {tck td : Nat} {W : World}
theorem BMW.take (h : BMW w mb L g ag cg B i dn S sal scl sak sck sd T tal tcl tak tck td W) {W' : World} {i' : Nat} {dn' : Int} (hm : MN mb g.length ag cg i' dn' 0 W') (hb : But3 mb mb mb W W') : BMW w mb L g ag cg B i' dn' S sal scl sak sck sd T tal tcl tak tck td W' := by
  have hl := h.lo
  have hB := h.hB
  have hs := hb.size
  have hc : ∀ c o, c < L → c ≠ mb → W'.cell? ⟨c, o, none⟩ = W.cell? ⟨c, o, none⟩ := fun c o q1 q2 => World.cell?_of_block (a := ⟨c, o, none⟩) (hb.block c (by omega) q2 q2 q2)
  have hf : ∀ c o, c < L → c ≠ mb → W'.frozen? ⟨c, o, none⟩ = W.frozen? ⟨c, o, none⟩ := fun c o q1 q2 => World.frozen?_of_block (a := ⟨c, o, none⟩) (hb.block c (by omega) q2 q2 q2)
  refine ⟨h.x.keep (fun c o q => ?_) (fun _ q => q), h.y.keep (fun c o q => ?_) (fun _ q => q), hm, h.ga.keep (fun b q1 q2 => hb.block b (by omega) (by omega) (by omega) (by omega)), fun o => (hf _ _ (by omega) (by omega)).trans (h.fx o), fun o => (hf _ _ (by omega) (by omega)).trans (h.fy o), ⟨hl.1, hl.2.1, by omega⟩, hB, h.bl.trans (hb.bel h.bl.size (by omega) (by omega) (by omega))⟩
  · rcases q with rfl | q
    · exact hc _ _ (by omega) (by omega)
    · exact hc _ _ q.1 q.2.2.2
  · rcases q with rfl | q
    · exact hc _ _ (by omega) (by omega)
    · exact hc _ _ q.1 q.2.2.2
variable {ox oy : Nat} {A : Ty} {aal : Option Addr} {acl : Nat} {aak : Option Addr} {ack ad : Nat} {Bt : Ty} {bal : Option Addr} {bcl : Nat} {bak : Option Addr} {bck bd M : Nat}
theorem RND.keepB {i' : Nat} {dn' : Int} (h : RND w mb L g ag cg B i dn S sal scl sak sck sd T tal tcl tak tck td ox oy A aal acl aak ack ad Bt bal bcl bak bck bd M W) {W' : World} (hm : BMW w mb L g ag cg B i' dn' S sal scl sak sck sd T tal tcl tak tck td W') (hs : W.heap.size ≤ W'.heap.size) (hc : ∀ c o, c < M → c ≠ mb → W'.cell? ⟨c, o, none⟩ = W.cell? ⟨c, o, none⟩) : RND w mb L g ag cg B i' dn' S sal scl sak sck sd T tal tcl tak tck td ox oy A aal acl aak ack ad Bt bal bcl bak bck bd M W' := by
  have hl := h.m.lo
  have h1 := h.lx
  have h2 := h.ly
  have h3 := h.lm
  refine ⟨hm, h.x.keep (fun c o q => ?_) (fun _ q => q), h.y.keep (fun c o q => ?_) (fun _ q => q), h.ne, h1, h2, ⟨h3.1, by omega⟩⟩
  · rcases q with rfl | q
    · exact hc _ _ h1.2 (by omega)
    · exact hc _ _ (q.lt h3.1) (q.ne ⟨hl.1, hl.2.1⟩).1
  · rcases q with rfl | q
    · exact hc _ _ h2.2 (by omega)
    · exact hc _ _ (q.lt h3.1) (q.ne ⟨hl.1, hl.2.1⟩).1
theorem RND.keep (h : RND w mb L g ag cg B i dn S sal scl sak sck sd T tal tcl tak tck td ox oy A aal acl aak ack ad Bt bal bcl bak bck bd M W) {W' : World} (hb : Below W.heap.size W W') : RND w mb L g ag cg B i dn S sal scl sak sck sd T tal tcl tak tck td ox oy A aal acl aak ack ad Bt bal bcl bak bck bd M W' :=
  h.keepB (h.m.keep hb) hb.size fun c o q _ => hb.cell (p := ⟨c, o, none⟩) (Nat.lt_of_lt_of_le q h.lm.2)
theorem RND.take (h : RND w mb L g ag cg B i dn S sal scl sak sck sd T tal tcl tak tck td ox oy A aal acl aak ack ad Bt bal bcl bak bck bd M W) {W' : World} {i' : Nat} {dn' : Int} (hm : MN mb g.length ag cg i' dn' 0 W') (hb : But3 mb mb mb W W') : RND w mb L g ag cg B i' dn' S sal scl sak sck sd T tal tcl tak tck td ox oy A aal acl aak ack ad Bt bal bcl bak bck bd M W' :=
  h.keepB (h.m.take hm hb) hb.size fun c o q1 q2 => World.cell?_of_block (a := ⟨c, o, none⟩) (hb.block c (Nat.lt_of_lt_of_le q1 h.lm.2) q2 q2 q2)
/-- a box behind all that is written to -/
theorem RND.ev (h : RND w mb L g ag cg B i dn S sal scl sak sck sd T tal tcl tak tck td ox oy A aal acl aak ack ad Bt bal bcl bak bck bd M W) {W' : World} {xb : Nat} (hx : M ≤ xb) (hb : But3 xb xb xb W W') : RND w mb L g ag cg B i dn S sal scl sak sck sd T tal tcl tak tck td ox oy A aal acl aak ack ad Bt bal bcl bak bck bd M W' := by
  have h3 := h.lm
  have hl := h.m.lo
  have hB := h.m.hB
  have hc : ∀ c o, c < M → W'.cell? ⟨c, o, none⟩ = W.cell? ⟨c, o, none⟩ := fun c o q => World.cell?_of_block (a := ⟨c, o, none⟩) (hb.block c (by omega) (by omega) (by omega) (by omega))
  have hf : ∀ c o, c < M → W'.frozen? ⟨c, o, none⟩ = W.frozen? ⟨c, o, none⟩ := fun c o q => World.frozen?_of_block (a := ⟨c, o, none⟩) (hb.block c (by omega) (by omega) (by omega) (by omega))
  have hs := hb.size
  refine h.keepB ⟨h.m.x.keep (fun c o q => hc c o ?_) (fun _ q => q), h.m.y.keep (fun c o q => hc c o ?_) (fun _ q => q), h.m.m.blk (hb.block mb (by omega) (by omega) (by omega) (by omega)) hs, h.m.ga.keep (fun b q1 q2 => hb.block b (by omega) (by omega) (by omega) (by omega)), fun o => (hf _ _ (by omega)).trans (h.m.fx o), fun o => (hf _ _ (by omega)).trans (h.m.fy o), ⟨hl.1, hl.2.1, by omega⟩, hB, h.m.bl.trans (hb.bel h.m.bl.size (by omega) (by omega) (by omega))⟩ hs (fun c o q _ => hc c o q)
  · rcases q with rfl | q
    · omega
    · exact Nat.lt_of_lt_of_le q.1 h3.1
  · rcases q with rfl | q
    · omega
    · exact Nat.lt_of_lt_of_le q.1 h3.1
/-- both boxes are filled with what comes next -/
theorem RND.next (h : RND w mb L g ag cg B i dn S sal scl sak sck sd T tal tcl tak tck td ox oy A aal acl aak ack ad Bt bal bcl bak bck bd M W) {S' T' : Ty} {sal' : Option Addr} {scl' : Nat} {sak' : Option Addr} {sck' sd' : Nat} {tal' : Option Addr} {tcl' : Nat} {tak' : Option Addr} {tck' td' : Nat} (b1 : TyBd S' scl' sck') (l1 : LP W (QPB w mb L ox oy M) S'.labels sal') (k1 : KP W (QPB w mb L ox oy M) sd' S'.kids sak') (b2 : TyBd T' tcl' tck') (l2 : LP W (QPB w mb L ox oy M) T'.labels tal') (k2 : KP W (QPB w mb L ox oy M) td' T'.kids tak') :
    BMW w mb W.heap.size g ag cg B i dn S' sal' scl' sak' sck' sd' T' tal' tcl' tak' tck' td' (st5 (st5 W w.heap.size 0 (.int .i64 S'.kind) (.int .i64 S'.so) (.string S'.name) (.slice sal' S'.labels.length scl') (.slice sak' S'.kids.length sck')) (w.heap.size + 1) 0 (.int .i64 T'.kind) (.int .i64 T'.so) (.string T'.name) (.slice tal' T'.labels.length tcl') (.slice tak' T'.kids.length tck')) := by
  have hl := h.m.lo
  have hB := h.m.hB
  obtain ⟨V1, hV1⟩ : ∃ V, V = st5 W w.heap.size 0 (.int .i64 S'.kind) (.int .i64 S'.so) (.string S'.name) (.slice sal' S'.labels.length scl') (.slice sak' S'.kids.length sck') := ⟨_, rfl⟩
  rw [← hV1]
  obtain ⟨V2, hV2⟩ : ∃ V, V = st5 V1 (w.heap.size + 1) 0 (.int .i64 T'.kind) (.int .i64 T'.so) (.string T'.name) (.slice tal' T'.labels.length tcl') (.slice tak' T'.kids.length tck') := ⟨_, rfl⟩
  rw [← hV2]
  have s1 : V1.heap.size = W.heap.size := by rw [hV1]; exact st5_size _ _ _ _ _ _ _ _
  have s2 : V2.heap.size = W.heap.size := by rw [hV2, st5_size, s1]
  have c1 : ∀ c o, c ≠ w.heap.size → V1.cell? ⟨c, o, none⟩ = W.cell? ⟨c, o, none⟩ := fun c o q => by rw [hV1]; exact st5_other _ _ _ _ _ _ _ _ _ _ (.inl q)
  have c2 : ∀ c o, c ≠ w.heap.size + 1 → V2.cell? ⟨c, o, none⟩ = V1.cell? ⟨c, o, none⟩ := fun c o q => by rw [hV2]; exact st5_other _ _ _ _ _ _ _ _ _ _ (.inl q)
  have cc : ∀ c o, c ≠ w.heap.size → c ≠ w.heap.size + 1 → V2.cell? ⟨c, o, none⟩ = W.cell? ⟨c, o, none⟩ := fun c o q1 q2 => (c2 c o q2).trans (c1 c o q1)
  have ff : ∀ p, V2.frozen? p = W.frozen? p := fun p => by rw [hV2, hV1]; unfold st5; simp only [World.frozen?_setCell]
  have blk : ∀ c, c ≠ w.heap.size → c ≠ w.heap.size + 1 → V2.heap[c]? = W.heap[c]? := fun c q1 q2 => by
    rw [hV2, hV1]
    unfold st5
    rw [Below.heap_setCell _ _ _ c q2, Below.heap_setCell _ _ _ c q2, Below.heap_setCell _ _ _ c q2, Below.heap_setCell _ _ _ c q2, Below.heap_setCell _ _ _ c q2, Below.heap_setCell _ _ _ c q1, Below.heap_setCell _ _ _ c q1, Below.heap_setCell _ _ _ c q1, Below.heap_setCell _ _ _ c q1, Below.heap_setCell _ _ _ c q1]
  have five : ∀ {c : Nat} {q : Ty} {a1 : Option Addr} {n1 : Nat} {a2 : Option Addr} {n2 : Nat} {X : World}, TyAt X c 0 q a1 n1 a2 n2 → ∀ j, j < 5 → ∃ v, X.cell? ⟨c, 0 + j, none⟩ = some v := fun e j hj => by
    have : j = 0 ∨ j = 1 ∨ j = 2 ∨ j = 3 ∨ j = 4 := by omega
    rcases this with rfl | rfl | rfl | rfl | rfl
    · exact ⟨_, e.c0⟩
    · exact ⟨_, e.c1⟩
    · exact ⟨_, e.c2⟩
    · exact ⟨_, e.c3⟩
    · exact ⟨_, e.c4⟩
  have a1 : TyAt V1 w.heap.size 0 S' sal' scl' sak' sck' := by rw [hV1]; exact st5_at W _ 0 S' sal' scl' sak' sck' (five h.m.x.a)
  have a2 : TyAt V2 w.heap.size 0 S' sal' scl' sak' sck' := ⟨(c2 _ _ (by omega)).trans a1.c0, (c2 _ _ (by omega)).trans a1.c1, (c2 _ _ (by omega)).trans a1.c2, (c2 _ _ (by omega)).trans a1.c3, (c2 _ _ (by omega)).trans a1.c4⟩
  have y1 : TyAt V1 (w.heap.size + 1) 0 T tal tcl tak tck := ⟨(c1 _ _ (by omega)).trans h.m.y.a.c0, (c1 _ _ (by omega)).trans h.m.y.a.c1, (c1 _ _ (by omega)).trans h.m.y.a.c2, (c1 _ _ (by omega)).trans h.m.y.a.c3, (c1 _ _ (by omega)).trans h.m.y.a.c4⟩
  have y2 : TyAt V2 (w.heap.size + 1) 0 T' tal' tcl' tak' tck' := by rw [hV2]; exact st5_at V1 _ 0 T' tal' tcl' tak' tck' (five y1)
  have kq : ∀ c o, QPB w mb L ox oy M c → V2.cell? ⟨c, o, none⟩ = W.cell? ⟨c, o, none⟩ := fun c o q => cc c o (q.ne ⟨hl.1, hl.2.1⟩).2.1 (q.ne ⟨hl.1, hl.2.1⟩).2.2
  have qq : ∀ c, QPB w mb L ox oy M c → PSB w mb W.heap.size c := fun c q => ⟨Nat.lt_of_lt_of_le (q.lt h.lm.1) h.lm.2, (q.ne ⟨hl.1, hl.2.1⟩).2.1, (q.ne ⟨hl.1, hl.2.1⟩).2.2, (q.ne ⟨hl.1, hl.2.1⟩).1⟩
  refine ⟨⟨a2, b1, l1.keep kq qq, k1.keep kq qq⟩, ⟨y2, b2, l2.keep kq qq, k2.keep kq qq⟩, h.m.m.blk (blk mb (by omega) (by omega)) (by omega), ?_, fun o => (ff _).trans (h.m.fx o), fun o => (ff _).trans (h.m.fy o), ⟨hl.1, by omega, by omega⟩, hB, by rw [hV2, hV1]; exact st5_below _ 0 _ _ _ _ _ (st5_below _ 0 _ _ _ _ _ h.m.bl (Nat.le_refl _)) (by omega)⟩
  exact h.m.ga.keep fun b q1 q2 => blk b (by omega) (by omega)
end
theorem goes_uniq {g : List Nd} {i : Nat} {x : Ev} {j k : Nat} (h1 : goesE g i x j) (h2 : goesE g i x k) : j = k := by
  obtain ⟨_, a | a | a⟩ := h1 <;> obtain ⟨_, b | b | b⟩ := h2
  all_goals first | (exfalso; have h1 := a.1; have h2 := b.1; omega) | (rw [a.2.2, b.2.2])
theorem take_good {V : ByteArray → Bool} {g : List Nd} {i : Nat} {dn : Int} {x : Ev} {i' j : Nat} {dn' bl' v z : Int} (h : TKR V g i dn 0 x i' dn' bl' v z) (he : evE V x = 0) (hg : goesE g i x j) : v = 0 ∧ z = 0 ∧ i' = j ∧ dn' = dn + 1 ∧ bl' = 0 := by
  rcases h with h | ⟨_, hz, h | ⟨_, h | h⟩⟩
  · exact absurd he h.1
  · exact absurd rfl h.1
  · exact ⟨h.2.2.2, hz, goes_uniq h.1 hg, h.2.1, h.2.2.1⟩
  · exact absurd hg (h.1 j)
section
variable {W : World} {b : Nat} {x : Ev} {al : Option Addr} {cl : Nat} {ak : Option Addr} {ck : Nat}
theorem EvAt.val (h : EvAt W b x al cl ak ck) (so : Int) : EvAt (((W.setCell ⟨b, 1, none⟩ (.int .i64 so)).setCell ⟨b, 2, none⟩ (.int .i64 0)).setCell ⟨b, 3, none⟩ (.string ⟨#[]⟩)) b ⟨x.kind, so, 0, ⟨#[]⟩, x.carry, x.label⟩ al cl ak ck := by
  have k : ∀ o, o ≠ 1 → o ≠ 2 → o ≠ 3 → (((W.setCell ⟨b, 1, none⟩ (.int .i64 so)).setCell ⟨b, 2, none⟩ (.int .i64 0)).setCell ⟨b, 3, none⟩ (.string ⟨#[]⟩)).cell? ⟨b, o, none⟩ = W.cell? ⟨b, o, none⟩ := fun o q1 q2 q3 => ((cell_set _ (.inr q3)).trans (cell_set _ (.inr q2))).trans (cell_set _ (.inr q1))
  exact ⟨(k 0 (by omega) (by omega) (by omega)).trans h.c0, ((cell_set _ (.inr (by omega))).trans (cell_set _ (.inr (by omega)))).trans (World.cell?_setCell_same _ _ _ h.c1), (cell_set _ (.inr (by omega))).trans (World.cell?_setCell_same _ _ _ ((cell_set _ (.inr (by omega))).trans h.c2)), World.cell?_setCell_same _ _ _ (((cell_set _ (.inr (by omega))).trans (cell_set _ (.inr (by omega)))).trans h.c3), (k 4 (by omega) (by omega) (by omega)).trans h.c4, (k 5 (by omega) (by omega) (by omega)).trans h.c5, (k 6 (by omega) (by omega) (by omega)).trans h.c6, (k 7 (by omega) (by omega) (by omega)).trans h.c7, (k 8 (by omega) (by omega) (by omega)).trans h.c8, (k 9 (by omega) (by omega) (by omega)).trans h.c9⟩
theorem val_but (so : Int) : But3 b b b W (((W.setCell ⟨b, 1, none⟩ (.int .i64 so)).setCell ⟨b, 2, none⟩ (.int .i64 0)).setCell ⟨b, 3, none⟩ (.string ⟨#[]⟩)) := (((But3.refl b b b W).set (.inl rfl) _).set (.inl rfl) _).set (.inl rfl) _
theorem EvAt.car (h : EvAt W b x al cl ak ck) (t : Ty) (tal : Option Addr) (tcl : Nat) (tak : Option Addr) (tck : Nat) : EvAt (((((W.setCell ⟨b, 4, none⟩ (.int .i64 t.kind)).setCell ⟨b, 5, none⟩ (.int .i64 t.so)).setCell ⟨b, 6, none⟩ (.string t.name)).setCell ⟨b, 7, none⟩ (.slice tal t.labels.length tcl)).setCell ⟨b, 8, none⟩ (.slice tak t.kids.length tck)) b ⟨x.kind, x.so, x.n, x.s, t, x.label⟩ tal tcl tak tck := by
  have k : ∀ o, o ≠ 4 → o ≠ 5 → o ≠ 6 → o ≠ 7 → o ≠ 8 → (((((W.setCell ⟨b, 4, none⟩ (.int .i64 t.kind)).setCell ⟨b, 5, none⟩ (.int .i64 t.so)).setCell ⟨b, 6, none⟩ (.string t.name)).setCell ⟨b, 7, none⟩ (.slice tal t.labels.length tcl)).setCell ⟨b, 8, none⟩ (.slice tak t.kids.length tck)).cell? ⟨b, o, none⟩ = W.cell? ⟨b, o, none⟩ := fun o q1 q2 q3 q4 q5 => ((((cell_set _ (.inr q5)).trans (cell_set _ (.inr q4))).trans (cell_set _ (.inr q3))).trans (cell_set _ (.inr q2))).trans (cell_set _ (.inr q1))
  have s := fun {X : World} {o o' : Nat} {v : Value} (q : o ≠ o') => (cell_set (W := X) (b := b) (b' := b) (o := o) (o' := o') v (.inr q))
  exact ⟨(k 0 (by omega) (by omega) (by omega) (by omega) (by omega)).trans h.c0, (k 1 (by omega) (by omega) (by omega) (by omega) (by omega)).trans h.c1, (k 2 (by omega) (by omega) (by omega) (by omega) (by omega)).trans h.c2, (k 3 (by omega) (by omega) (by omega) (by omega) (by omega)).trans h.c3,
    (((s (by omega)).trans (s (by omega))).trans ((s (by omega)).trans (s (by omega)))).trans (World.cell?_setCell_same _ _ _ h.c4),
    (((s (by omega)).trans (s (by omega))).trans (s (by omega))).trans (World.cell?_setCell_same _ _ _ ((s (by omega)).trans h.c5)),
    ((s (by omega)).trans (s (by omega))).trans (World.cell?_setCell_same _ _ _ (((s (by omega)).trans (s (by omega))).trans h.c6)),
    (s (by omega)).trans (World.cell?_setCell_same _ _ _ (((s (by omega)).trans ((s (by omega)).trans (s (by omega)))).trans h.c7)),
    World.cell?_setCell_same _ _ _ (((s (by omega)).trans ((s (by omega)).trans ((s (by omega)).trans (s (by omega))))).trans h.c8), (k 9 (by omega) (by omega) (by omega) (by omega) (by omega)).trans h.c9⟩
theorem car_but (v0 v1 v2 v3 v4 : Value) : But3 b b b W (((((W.setCell ⟨b, 4, none⟩ v0).setCell ⟨b, 5, none⟩ v1).setCell ⟨b, 6, none⟩ v2).setCell ⟨b, 7, none⟩ v3).setCell ⟨b, 8, none⟩ v4) := (((((But3.refl b b b W).set (.inl rfl) _).set (.inl rfl) _).set (.inl rfl) _).set (.inl rfl) _).set (.inl rfl) _
theorem EvAt.lab (h : EvAt W b x al cl ak ck) (l : ByteArray) : EvAt (W.setCell ⟨b, 9, none⟩ (.string l)) b ⟨x.kind, x.so, x.n, x.s, x.carry, l⟩ al cl ak ck := by
  have s := fun {o : Nat} (q : o ≠ 9) => (cell_set (W := W) (b := b) (b' := b) (o := o) (o' := 9) (.string l) (.inr q))
  exact ⟨(s (by omega)).trans h.c0, (s (by omega)).trans h.c1, (s (by omega)).trans h.c2, (s (by omega)).trans h.c3, (s (by omega)).trans h.c4, (s (by omega)).trans h.c5, (s (by omega)).trans h.c6, (s (by omega)).trans h.c7, (s (by omega)).trans h.c8, World.cell?_setCell_same _ _ _ h.c9⟩
theorem lab_but (l : Value) : But3 b b b W (W.setCell ⟨b, 9, none⟩ l) := (But3.refl b b b W).set (.inl rfl) _
end
theorem vD_none : vD ⟨#[]⟩ = true := by decide
theorem ev_val {k so : Int} (hk : k = 2 ∨ k = 3) (hs : so = 1 ∨ so = 2 ∨ so = 3) : evE vD ⟨k, so, 0, ⟨#[]⟩, ⟨0, 0, ⟨#[]⟩, [], []⟩, ⟨#[]⟩⟩ = 0 := by
  have hb : bareE ⟨k, 0, 0, ⟨#[]⟩, ⟨0, 0, ⟨#[]⟩, [], []⟩, ⟨#[]⟩⟩ = true := by unfold bareE noT; simp
  have hc : chkZ vD so 0 ⟨#[]⟩ = 0 := by
    rcases hs with rfl | rfl | rfl
    · simp [chkZ, argZ]
    · simp [chkZ, argZ]
    · simp [chkZ, textZ, argZ, vD_none, ByteArray.size]
  unfold evE
  rw [if_pos hk, hc, if_pos rfl, hb, if_pos rfl]
theorem ev_car {k : Int} (hk : k = 4 ∨ k = 5) {t : Ty} (ht : chkTy t = 0) : evE vD ⟨k, 0, 0, ⟨#[]⟩, t, ⟨#[]⟩⟩ = 0 := by
  have hb : bareE ⟨k, 0, 0, ⟨#[]⟩, zT, ⟨#[]⟩⟩ = true := by unfold bareE noT zT; simp
  unfold evE
  rw [if_neg (by show ¬ (k = 2 ∨ k = 3); omega), if_pos hk]
  show (if chkTy t = 0 then (if bareE ⟨k, 0, 0, ⟨#[]⟩, zT, ⟨#[]⟩⟩ = true then (0 : Int) else 1) else chkTy t) = 0
  rw [if_pos ht, hb, if_pos rfl]
theorem ev_lab {k : Int} (hk : k = 6 ∨ k = 7) (l : ByteArray) : evE vD ⟨k, 0, 0, ⟨#[]⟩, ⟨0, 0, ⟨#[]⟩, [], []⟩, l⟩ = 0 := by
  have hb : bareE ⟨k, 0, 0, ⟨#[]⟩, ⟨0, 0, ⟨#[]⟩, [], []⟩, ⟨#[]⟩⟩ = true := by unfold bareE noT; simp
  unfold evE
  rw [if_neg (by show ¬ (k = 2 ∨ k = 3); omega), if_neg (by show ¬ (k = 4 ∨ k = 5); omega), if_pos hk]
  show (if bareE ⟨k, 0, 0, ⟨#[]⟩, ⟨0, 0, ⟨#[]⟩, [], []⟩, ⟨#[]⟩⟩ = true then (0 : Int) else 1) = 0
  rw [hb, if_pos rfl]
theorem zT_bd : TyBd ⟨0, 0, ⟨#[]⟩, [], []⟩ 0 0 := ⟨by show (0 : Nat) ≤ 9223372036854775807; omega, (fun l hl => by cases hl), Nat.le_refl _, by omega, Nat.le_refl _, by omega⟩
theorem zT_chk : chkTy ⟨0, 0, ⟨#[]⟩, [], []⟩ ≠ 0 := fun h => by
  have hp := ((gdT_eq _).1 (chkTy_gd _ h).1).1
  have hn := okN_cases (part_okN hp (by decide) (by decide) [] rfl)
  simp at hn
set_option maxRecDepth 100000 in
theorem pick_any (k : Int) (n : Nat) (w : World) (hk : -9223372036854775808 ≤ k ∧ k ≤ 9223372036854775807) (hn : 0 < n) (hn2 : n ≤ 1000) :
    Calls Tryd.prog 9 #[.int .i64 k, .int .i64 (n : Int)] w fun e w' => (∃ q : Nat, q < n ∧ e = .returned (.int .i64 (q : Int))) ∧ w' = w := by
  have hz : ¬ (n : Int) = 0 := by omega
  have hzb : ((n : Int) == 0) = false := by simpa using hz
  by_cases h0 : k < 0
  · obtain ⟨m, hm⟩ : ∃ m : Nat, -(k + 1) = (m : Int) := ⟨(-(k + 1)).toNat, by omega⟩
    have w1 : IntKind.i64.wrap (k + 1) = k + 1 := by simp [IntKind.wrap, IntKind.bits, IntKind.signed]; omega
    have w2 : IntKind.i64.wrap (-(k + 1)) = (m : Int) := by rw [hm]; simp [IntKind.wrap, IntKind.bits, IntKind.signed]; omega
    clear hm
    go_enter Tryd.func9, Tryd.ntmps9
    go_wp2_with fail
    go_ret
    exact ⟨⟨m % n, Nat.mod_lt _ hn, rfl⟩, rfl⟩
  · obtain ⟨m, rfl⟩ : ∃ m : Nat, k = (m : Int) := ⟨k.toNat, by omega⟩
    go_enter Tryd.func9, Tryd.ntmps9
    go_wp2_with fail
    go_ret
    exact ⟨⟨m % n, Nat.mod_lt _ hn, rfl⟩, rfl⟩
end Go.Proofs.YthhbbhijpkoelaaDoor
