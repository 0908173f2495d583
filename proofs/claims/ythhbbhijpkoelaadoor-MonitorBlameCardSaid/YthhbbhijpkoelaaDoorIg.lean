/-
  Plain mathematics: the search of the first place at which one graph fails to be below another one, and what it tells.
-/
import Derived.Test.YthhbbhijpkoelaaDoorId
import Derived.Test.YthhbbhijpkoelaaDoorHt
namespace Go.Proofs.YthhbbhijpkoelaaDoor

def failB (m n : Nd) : Bool := if m.kind ≠ n.kind ∨ m.so ≠ n.so then true else if m.kind = 7 then !(m.labs.all fun l => hasN n.labs l) else !(n.labs.all fun l => hasN m.labs l)
theorem failB_iff (m n : Nd) : failB m n = false ↔ okI m n := by
  unfold failB okI
  by_cases h1 : m.kind ≠ n.kind ∨ m.so ≠ n.so
  · rw [if_pos h1]
    constructor
    · intro h; cases h
    · rintro ⟨a, b, _⟩; rcases h1 with h1 | h1
      · exact absurd a h1
      · exact absurd b h1
  · rw [if_neg h1]
    have a : m.kind = n.kind := Decidable.byContradiction fun h => h1 (.inl h)
    have b : m.so = n.so := Decidable.byContradiction fun h => h1 (.inr h)
    by_cases h7 : m.kind = 7
    · rw [if_pos h7, if_pos h7]
      simp only [Bool.not_eq_false', List.all_eq_true, hasN_iff]
      exact ⟨fun h => ⟨a, b, h⟩, fun h => h.2.2⟩
    · rw [if_neg h7, if_neg h7]
      simp only [Bool.not_eq_false', List.all_eq_true, hasN_iff]
      exact ⟨fun h => ⟨a, b, h⟩, fun h => h.2.2⟩
def failP (g h : List Nd) (p : Pl) : Bool := if p.2.2 = true then failB (nodeAt h p.2.1) (nodeAt g p.1) else failB (nodeAt g p.1) (nodeAt h p.2.1)
theorem failP_iff (g h : List Nd) (p : Pl) : failP g h p = false ↔ okP g h p := by
  unfold failP okP
  split
  · exact failB_iff _ _
  · exact failB_iff _ _
def nextS (g h : List Nd) (p : Pl) : List Stp := stepsP (nodeAt g p.1) (nodeAt h p.2.1) p.2.2
def numP (h : Nat) (p : Pl) : Nat := (p.1 * h + p.2.1) * 2 + if p.2.2 = true then 1 else 0
theorem numP_lt {g h : Nat} {p : Pl} (h1 : p.1 < g) (h2 : p.2.1 < h) : numP h p < 2 * g * h := by
  unfold numP
  have : p.1 * h + h ≤ g * h := by
    have := Nat.mul_le_mul_right h (show p.1 + 1 ≤ g from h1)
    rw [Nat.add_mul, Nat.one_mul] at this
    exact this
  have e : 2 * g * h = 2 * (g * h) := Nat.mul_assoc 2 g h
  rw [e]
  split <;> omega
theorem numP_inj {h : Nat} {p q : Pl} (h1 : p.2.1 < h) (h2 : q.2.1 < h) (e : numP h p = numP h q) : p = q := by
  obtain ⟨a, b, t⟩ := p
  obtain ⟨a', b', t'⟩ := q
  unfold numP at e
  simp only at e h1 h2
  have e1 : a * h + b = a' * h + b' ∧ t = t' := by
    cases t <;> cases t' <;> simp at e ⊢ <;> omega
  have e2 : a = a' := by
    rcases Nat.lt_trichotomy a a' with hl | hl | hl
    · have := Nat.mul_le_mul_right h (show a + 1 ≤ a' from hl)
      rw [Nat.add_mul, Nat.one_mul] at this
      omega
    · exact hl
    · have := Nat.mul_le_mul_right h (show a' + 1 ≤ a from hl)
      rw [Nat.add_mul, Nat.one_mul] at this
      omega
  subst e2
  have e3 : b = b' := by omega
  rw [e3, e1.2]
theorem step_lt {g h : List Nd} (hg : GN g) (hh : GN h) {p : Pl} (h1 : p.1 < g.length) (h2 : p.2.1 < h.length) (ho : okP g h p) : ∀ s ∈ nextS g h p, s.2.1 < g.length ∧ s.2.2.1 < h.length := by
  have hk : (nodeAt g p.1).kind = (nodeAt h p.2.1).kind := by
    unfold okP at ho
    split at ho
    · exact ho.1.symm
    · exact ho.1
  have lg := okN_len (hg.at_ h1)
  have lh := okN_len (hh.at_ h2)
  intro s hs
  unfold nextS stepsP at hs
  split at hs
  · rename_i hc
    rw [List.mem_singleton] at hs; subst hs
    exact ⟨hg.to_ 0 (lg.1 hc), hh.to_ 0 (lh.1 (by rw [← hk]; exact hc))⟩
  split at hs
  · rename_i hc
    have q1 := lg.2.1 hc
    have q2 := lh.2.1 (by rw [← hk]; exact hc)
    rcases List.mem_cons.1 hs with rfl | hs
    · exact ⟨hg.to_ 0 (by omega), hh.to_ 0 (by omega)⟩
    · rw [List.mem_singleton] at hs; subst hs
      exact ⟨hg.to_ 1 q1, hh.to_ 1 q2⟩
  · obtain ⟨x, l, hx, hm, rfl⟩ := mem_lab.1 hs
    exact ⟨hg.to_ x (lg.2.2 x (List.getElem?_eq_some_iff.1 hx).1), hh.to_ _ (lh.2.2 _ (idxB_lt hm))⟩
end Go.Proofs.YthhbbhijpkoelaaDoor
/-
  The contracts of graph.lay, laid, Of and Same, for every type.
-/
namespace Go.Proofs.YthhbbhijpkoelaaDoor
open Go.RowKit Go.Shelf

theorem lay_all (d : Nat) : LYSaid d := by
  induction d using Nat.strongRecOn with
  | _ d ih =>
    intro t al cl ak ck ar aa ca pg u toks B w hbd hla hkt hw hm hp hB hs1 hs2
    obtain ⟨hpt, hwk⟩ := (wfT_eq t).1 hw
    have hpos := sizeT_eq t
    by_cases h9 : t.kind = 9
    · exact lay_var t al cl ak ck ar aa ca pg u toks B w hm hp (by omega) h9
    by_cases h8 : t.kind = 8
    · obtain ⟨q, hq⟩ := part_rec hpt h8
      cases d with
      | zero => have e : t.kids = [] := hkt; rw [e] at hq; cases hq
      | succ d =>
        rcases hkt with e | ⟨b, o, rfl, hb, hc⟩
        · rw [e] at hq; cases hq
        · obtain ⟨a1, c1, a2, c2, h1, h2, h3, h4⟩ := hc 0 (by rw [hq]; exact Nat.one_pos)
          have e0 : t.kids[0]'(by rw [hq]; exact Nat.one_pos) = q := by simp [hq]
          rw [e0] at h1 h2 h3 h4
          exact lay_rec d (ih d (by omega)) t q al a1 cl c1 a2 ck c2 b (o + 0 * 5) ar aa ca pg u toks B w h1 hb h2 h3 h4 (hwk q (by rw [hq]; exact .head _)) hm hp hB hs1 hs2 h8 hq
    · have h6 : t.kids.length ≤ 6 := by
        have := (shp_len (part_shp hpt h9 h8 (t.kids.map fun _ => 0) (by simp))).2.1
        simpa using this
      exact lay_node d ih t al cl ak ck ar aa ca pg u toks B w hla hkt hw hm hp hB hs1 hs2 h9 h8 h6
set_option maxRecDepth 100000 in
set_option maxHeartbeats 2000000 in
theorem laid_any (d : Nat) (t : Ty) (al : Option Addr) (cl : Nat) (ak : Option Addr) (ck : Nat) (w : World) (hbd : TyBd t cl ck) (hla : LA w w.heap.size t.labels al) (hkt : KT w w.heap.size d t.kids ak) (hw : wfT t) (hs : sizeT t ≤ 60) :
    Calls Tryd.prog 23 #[tyVal t al cl ak ck] w fun e w' => (∃ ag cg, e = .returned (.slice ag (layP t [] 0).2.length cg) ∧ GAt w' w'.heap.size (layP t [] 0).2 ag) ∧ Below w.heap.size w w' := by
  have hA : Below w.heap.size w (w.alloc (.cells #[.int .i64 t.kind, .int .i64 t.so, .string t.name, .slice al t.labels.length cl, .slice ak t.kids.length ck] 25)) := (Below.refl _ _).alloc (Nat.le_refl _) _
  have hA2 : Below w.heap.size w ((w.alloc (.cells #[.int .i64 t.kind, .int .i64 t.so, .string t.name, .slice al t.labels.length cl, .slice ak t.kids.length ck] 25)).alloc (.cells #[.slice none 0 0] 47)) := hA.alloc hA.size _
  have hp : PG ((w.alloc (.cells #[.int .i64 t.kind, .int .i64 t.so, .string t.name, .slice al t.labels.length cl, .slice ak t.kids.length ck] 25)).alloc (.cells #[.slice none 0 0] 47)) (w.heap.size + 1) (.slice none 0 0) [] := ⟨by go_cell, by go_simp, World.ownsRow_nil _ _ _ _, by simp⟩
  have c := lay_all d t al cl ak ck [] none 0 (w.heap.size + 1) (.slice none 0 0) [] w.heap.size ((w.alloc (.cells #[.int .i64 t.kind, .int .i64 t.so, .string t.name, .slice al t.labels.length cl, .slice ak t.kids.length ck] 25)).alloc (.cells #[.slice none 0 0] 47)) hbd (hla.keep hA2) (hkt.keep hA2) hw (.inl ⟨rfl, rfl, rfl⟩) hp (by omega) (by simp; omega) (by simp; omega)
  have HA2 := hideK hA2
  unfold LYPost at c
  simp only [tyVal, List.length_nil] at c ⊢
  clear hbd hla hkt hw hA hA2 hp
  go_enter Tryd.func23, Tryd.ntmps23
  go_wp2_with fail
  refine c.mono ?_
  rintro e w1 ⟨rfl, new, u, hn, hp1, ht1, hr1, _⟩
  have hb1 : Below w.heap.size w w1 := hr1.below HA2.out HA2.out.size (by omega) (by omega) (fun k hk => by simp [Value.ownBlock] at hk)
  have hg := gat_of (P := fun b => b < w1.heap.size) hp1.own (fun x hx => ⟨by
      have h1 := (ht1 x hx).1
      exact h1.imp id fun ⟨b, o, e, hl, hc⟩ => ⟨b, o, e, by have := hb1.size; omega, hc⟩, by
      have h1 := (ht1 x hx).2
      exact h1.imp id fun ⟨b, o, e, hl, hc⟩ => ⟨b, o, e, hl.2.1, hc⟩⟩) (fun b hb => hb)
  rw [List.nil_append, hn] at hg
  obtain ⟨ag, cg, hu, hga⟩ := hg
  have hl : new.length = (layP t [] 0).2.length := by rw [← hn, List.length_map]
  rw [hl] at hu
  have hc1 := hp1.c
  subst hu
  have HG := hideK hga
  have HB := hideK hb1
  clear hp1 ht1 hr1 hga hb1 hn c
  go_wp2_with fail
  go_ret
  exact ⟨⟨_, _, rfl, HG.out⟩, HB.out⟩

/-! ### What Of answers -/
def e0 : ByteArray → Dn := fun _ _ => tr0
theorem okN_to {n : Nd} (h : okN n) (f : Nat → Nat) : okN ⟨n.kind, n.so, n.labs, n.to.map f⟩ := by
  unfold okN at h ⊢
  rw [List.map_map]
  exact h
theorem least_gn {g : List Nd} {c : List Nat} (hg : GN g) (hc : CLS g c) : GN (leastG g c) ∧ (∀ k, gT (leastG g c) k 0 = gT g k 0) ∧ (leastG g c).length ≤ g.length := by
  obtain ⟨h1, h2, h3, h4⟩ := least_alike hg.shut hc hg.pos
  refine ⟨⟨h3, Nat.le_trans h4 hg.le, fun n hn => ?_, h2⟩, h1, h4⟩
  obtain ⟨M, hI, _⟩ := lst_inv hg.shut hc g.length 0 [0] (RInv.start hg.pos) (Nat.zero_le _) (by omega)
  unfold leastG at hn
  obtain ⟨i, hi, rfl⟩ := List.mem_map.1 hn
  exact okN_to (hg.at_ (hI.lt i hi)) _
theorem lay_gn {t : Ty} (h : chkTy t = 0) : GN (layP t [] 0).2 := by
  obtain ⟨hg, _, _⟩ := chkTy_gd t h
  obtain ⟨hw, hs⟩ := chkTy_good t h
  have h1 := (lay_gr h).1
  exact ⟨h1.pos, by have := lay_size t hw [] 0; omega, lay_parts okN (fun t hp h9 h8 tos hl => part_okN hp h9 h8 tos hl) t hg [] 0, h1.shut⟩
/-- g is the least graph of t -/
structure OFG (t : Ty) (g : List Nd) : Prop where
  chk : chkTy t = 0
  src : ∃ c, CLS (layP t [] 0).2 c ∧ g = leastG (layP t [] 0).2 c
theorem OFG.gn {t : Ty} {g : List Nd} (h : OFG t g) : GN g := by
  obtain ⟨c, hc, rfl⟩ := h.src
  exact (least_gn (lay_gn h.chk) hc).1
theorem OFG.does {t : Ty} {g : List Nd} (h : OFG t g) : ∀ k, gT g k 0 = den t e0 k := by
  obtain ⟨c, hc, rfl⟩ := h.src
  intro k
  rw [(least_gn (lay_gn h.chk) hc).2.1 k]
  have := (lay_gr h.chk).2
  unfold e0
  rw [this]
/-- one and the same graph just if they do the same -/
theorem OFG.same {s t : Ty} {g h : List Nd} (hs : OFG s g) (ht : OFG t h) : g = h ↔ den s e0 = den t e0 := by
  have d1 := hs.does
  have d2 := ht.does
  obtain ⟨c, hc, rfl⟩ := hs.src
  obtain ⟨c', hc', rfl⟩ := ht.src
  have gs := lay_gn hs.chk
  have gt := lay_gn ht.chk
  constructor
  · intro e
    funext k
    rw [← d1 k, ← d2 k, e]
  · intro e
    refine least_canon ⟨gs.shut, gt.shut, hc, hc'⟩ gs.pos gt.pos fun k => ?_
    rw [← (least_gn gs hc).2.1 k, ← (least_gn gt hc').2.1 k, d1 k, d2 k, e]
/-- what Of leaves -/
def OFPost (t : Ty) (w : World) (e : Ending) (w' : World) : Prop :=
  ((chkTy t ≠ 0 ∧ e = .returned (.tuple #[.slice none 0 0, .int .i64 (chkTy t)])) ∨ (∃ g ag cg, OFG t g ∧ e = .returned (.tuple #[.slice ag g.length cg, .int .i64 0]) ∧ GAt w' w'.heap.size g ag)) ∧ Below w.heap.size w w'
set_option maxRecDepth 100000 in
set_option maxHeartbeats 2000000 in
theorem of_any (d : Nat) (t : Ty) (al : Option Addr) (cl : Nat) (ak : Option Addr) (ck : Nat) (w : World) (hbd : TyBd t cl ck) (hla : LA w w.heap.size t.labels al) (hkt : KT w w.heap.size d t.kids ak) :
    Calls Tryd.prog 13 #[tyVal t al cl ak ck] w (OFPost t w) := by
  have hA : Below w.heap.size w (w.alloc (.cells #[.int .i64 t.kind, .int .i64 t.so, .string t.name, .slice al t.labels.length cl, .slice ak t.kids.length ck] 25)) := (Below.refl _ _).alloc (Nat.le_refl _) _
  have cC := typesCheck_any d t al cl ak ck _ hbd (NAt.mono hA.size (NAt.keep hA hla)) (KT.mono hA.size (KT.keep hA hkt))
  have HA := hideK hA
  unfold OFPost
  by_cases hz : chkTy t = 0
  · rw [hz] at cC
    obtain ⟨hw, hsz⟩ := chkTy_good t hz
    have CW := hideK (fun (W : World) (hb : Below w.heap.size w W) => laid_any d t al cl ak ck W hbd ((hla.keep hb).mono hb.size) ((hkt.keep hb).mono hb.size) hw hsz)
    have CL := hideK (fun (W : World) ag cg (hga : GAt W W.heap.size (layP t [] 0).2 ag) => least_loop (layP t [] 0).2 ag cg W.heap.size W (lay_gn hz).gr hga (Nat.le_refl _))
    simp only [tyVal] at cC CW ⊢
    have HZ := hideK hz
    clear hbd hla hkt hz hw hsz hA
    go_enter Tryd.func13, Tryd.ntmps13
    go_wp2_with fail
    refine cC.mono ?_
    rintro e w1 ⟨rfl, hb1⟩
    obtain ⟨x0, x1, x2, x3, x4, hbw⟩ := keep5 hb1
    have cW := CW.out w1 hbw
    have HB := hideK hbw
    clear cC CW hbw
    go_wp2_with fail
    refine cW.mono ?_
    rintro e w2 ⟨⟨ag, cg, rfl, hga⟩, hb2⟩
    have cL := CL.out w2 ag cg hga
    have HB2 := hideK (HB.out.trans (hb2.mono HB.out.size))
    clear cW CL hga hb2
    generalize hG : (layP t [] 0).2 = G at *
    go_wp2_with fail
    refine cL.mono ?_
    rintro e w3 ⟨⟨c, hc, ao, co, rfl, hg3⟩, hb3⟩
    have HB3 := hideK (HB2.out.trans (hb3.mono HB2.out.size))
    have HC := hideK hc
    have HG3 := hideK hg3
    clear cL hc hg3 hb3
    generalize hgl : leastG G c = g at *
    go_wp2_with fail
    go_ret2
    exact ⟨.inr ⟨g, _, _, ⟨HZ.out, c, by rw [hG]; exact HC.out, by rw [hG]; exact hgl.symm⟩, rfl, HG3.out⟩, HB3.out⟩
  · have hzb : (chkTy t != 0) = true := by simpa using hz
    simp only [tyVal] at cC ⊢
    have HZ := hideK hz
    clear hbd hla hkt hz hA
    generalize hgz : chkTy t = z at cC hzb ⊢
    go_enter Tryd.func13, Tryd.ntmps13
    go_wp2_with fail
    refine cC.mono ?_
    rintro e w1 ⟨rfl, hb1⟩
    obtain ⟨x0, x1, x2, x3, x4, hbw⟩ := keep5 hb1
    clear cC
    go_wp2_with fail
    go_ret2
    exact ⟨.inl ⟨by rw [← hgz]; exact HZ.out, rfl⟩, hbw⟩
end Go.Proofs.YthhbbhijpkoelaaDoor
