/-
  Plain mathematics: the search of the first place at which one graph fails to be below another one, and what it tells.
-/
import Derived.Test.YtnlpnbelkkgghaaDoorId
import Derived.Test.YtnlpnbelkkgghaaDoorHt
namespace Go.Proofs.YtnlpnbelkkgghaaDoor

def failB (m n : Nd) : Bool := if m.kind ≠ n.kind ∨ m.so ≠ n.so then true else if m.kind = 7 then !(m.labs.all fun l => hasN n.labs l) else !(n.labs.all fun l => hasN m.labs l)
theorem failB_iff (m n : Nd) : failB m n = false ↔ okI m n := by
  unfold failB okI
  by_cases h1 : m.kind ≠ n.kind ∨ m.so ≠ n.so
  · rw [if_pos h1]
    constructor
    · intro h; cases h
    · rintro ⟨a, b, _⟩; rcases h1 with h1 | h1
      · exact absurd a h1
      · exact absurd b h1
  · rw [if_neg h1]
    have a : m.kind = n.kind := Decidable.byContradiction fun h => h1 (.inl h)
    have b : m.so = n.so := Decidable.byContradiction fun h => h1 (.inr h)
    by_cases h7 : m.kind = 7
    · rw [if_pos h7, if_pos h7]
      simp only [Bool.not_eq_false', List.all_eq_true, hasN_iff]
      exact ⟨fun h => ⟨a, b, h⟩, fun h => h.2.2⟩
    · rw [if_neg h7, if_neg h7]
      simp only [Bool.not_eq_false', List.all_eq_true, hasN_iff]
      exact ⟨fun h => ⟨a, b, h⟩, fun h => h.2.2⟩
def failP (g h : List Nd) (p : Pl) : Bool := if p.2.2 = true then failB (nodeAt h p.2.1) (nodeAt g p.1) else failB (nodeAt g p.1) (nodeAt h p.2.1)
theorem failP_iff (g h : List Nd) (p : Pl) : failP g h p = false ↔ okP g h p := by
  unfold failP okP
  split
  · exact failB_iff _ _
  · exact failB_iff _ _
def nextS (g h : List Nd) (p : Pl) : List Stp := stepsP (nodeAt g p.1) (nodeAt h p.2.1) p.2.2
def numP (h : Nat) (p : Pl) : Nat := (p.1 * h + p.2.1) * 2 + if p.2.2 = true then 1 else 0
theorem numP_lt {g h : Nat} {p : Pl} (h1 : p.1 < g) (h2 : p.2.1 < h) : numP h p < 2 * g * h := by
  unfold numP
  have : p.1 * h + h ≤ g * h := by
    have := Nat.mul_le_mul_right h (show p.1 + 1 ≤ g from h1)
    rw [Nat.add_mul, Nat.one_mul] at this
    exact this
  have e : 2 * g * h = 2 * (g * h) := Nat.mul_assoc 2 g h
  rw [e]
  split <;> omega
theorem numP_inj {h : Nat} {p q : Pl} (h1 : p.2.1 < h) (h2 : q.2.1 < h) (e : numP h p = numP h q) : p = q := by
  obtain ⟨a, b, t⟩ := p
  obtain ⟨a', b', t'⟩ := q
  unfold numP at e
  simp only at e h1 h2
  have e1 : a * h + b = a' * h + b' ∧ t = t' := by
    cases t <;> cases t' <;> simp at e ⊢ <;> omega
  have e2 : a = a' := by
    rcases Nat.lt_trichotomy a a' with hl | hl | hl
    · have := Nat.mul_le_mul_right h (show a + 1 ≤ a' from hl)
      rw [Nat.add_mul, Nat.one_mul] at this
      omega
    · exact hl
    · have := Nat.mul_le_mul_right h (show a' + 1 ≤ a from hl)
      rw [Nat.add_mul, Nat.one_mul] at this
      omega
  subst e2
  have e3 : b = b' := by omega
  rw [e3, e1.2]
theorem step_lt {g h : List Nd} (hg : GN g) (hh : GN h) {p : Pl} (h1 : p.1 < g.length) (h2 : p.2.1 < h.length) (ho : okP g h p) : ∀ s ∈ nextS g h p, s.2.1 < g.length ∧ s.2.2.1 < h.length := by
  have hk : (nodeAt g p.1).kind = (nodeAt h p.2.1).kind := by
    unfold okP at ho
    split at ho
    · exact ho.1.symm
    · exact ho.1
  have lg := okN_len (hg.at_ h1)
  have lh := okN_len (hh.at_ h2)
  intro s hs
  unfold nextS stepsP at hs
  split at hs
  · rename_i hc
    rw [List.mem_singleton] at hs; subst hs
    exact ⟨hg.to_ 0 (lg.1 hc), hh.to_ 0 (lh.1 (by rw [← hk]; exact hc))⟩
  split at hs
  · rename_i hc
    have q1 := lg.2.1 hc
    have q2 := lh.2.1 (by rw [← hk]; exact hc)
    rcases List.mem_cons.1 hs with rfl | hs
    · exact ⟨hg.to_ 0 (by omega), hh.to_ 0 (by omega)⟩
    · rw [List.mem_singleton] at hs; subst hs
      exact ⟨hg.to_ 1 q1, hh.to_ 1 q2⟩
  · obtain ⟨x, l, hx, hm, rfl⟩ := mem_lab.1 hs
    exact ⟨hg.to_ x (lg.2.2 x (List.getElem?_eq_some_iff.1 hx).1), hh.to_ _ (lh.2.2 _ (idxB_lt hm))⟩
end Go.Proofs.YtnlpnbelkkgghaaDoor
/-
  The contracts of graph.lay, laid, Of and Same, for every type.
-/
namespace Go.Proofs.YtnlpnbelkkgghaaDoor
open Go.RowKit Go.Shelf

theorem lay_all (d : Nat) : LYSaid d := by
  induction d using Nat.strongRecOn with
  | _ d ih =>
    intro t al cl ak ck ar aa ca pg u toks B w hbd hla hkt hw hm hp hB hs1 hs2
    obtain ⟨hpt, hwk⟩ := (wfT_eq t).1 hw
    have hpos := sizeT_eq t
    by_cases h9 : t.kind = 9
    · exact lay_var t al cl ak ck ar aa ca pg u toks B w hm hp (by omega) h9
    by_cases h8 : t.kind = 8
    · obtain ⟨q, hq⟩ := part_rec hpt h8
      cases d with
      | zero => have e : t.kids = [] := hkt; rw [e] at hq; cases hq
      | succ d =>
        rcases hkt with e | ⟨b, o, rfl, hb, hc⟩
        · rw [e] at hq; cases hq
        · obtain ⟨a1, c1, a2, c2, h1, h2, h3, h4⟩ := hc 0 (by rw [hq]; exact Nat.one_pos)
          have e0 : t.kids[0]'(by rw [hq]; exact Nat.one_pos) = q := by simp [hq]
          rw [e0] at h1 h2 h3 h4
          exact lay_rec d (ih d (by omega)) t q al a1 cl c1 a2 ck c2 b (o + 0 * 5) ar aa ca pg u toks B w h1 hb h2 h3 h4 (hwk q (by rw [hq]; exact .head _)) hm hp hB hs1 hs2 h8 hq
    · have h6 : t.kids.length ≤ 6 := by
        have := (shp_len (part_shp hpt h9 h8 (t.kids.map fun _ => 0) (by simp))).2.1
        simpa using this
      exact lay_node d ih t al cl ak ck ar aa ca pg u toks B w hla hkt hw hm hp hB hs1 hs2 h9 h8 h6
set_option maxRecDepth 100000 in
set_option maxHeartbeats 2000000 in
theorem laid_any (d : Nat) (t : Ty) (al : Option Addr) (cl : Nat) (ak : Option Addr) (ck : Nat) (w : World) (hbd : TyBd t cl ck) (hla : LA w w.heap.size t.labels al) (hkt : KT w w.heap.size d t.kids ak) (hw : wfT t) (hs : sizeT t ≤ 60) :
    Calls Tryd.prog 31 #[tyVal t al cl ak ck] w fun e w' => (∃ ag cg, e = .returned (.slice ag (layP t [] 0).2.length cg) ∧ GAt w' w'.heap.size (layP t [] 0).2 ag) ∧ Below w.heap.size w w' := by
  have hA : Below w.heap.size w (w.alloc (.cells #[.int .i64 t.kind, .int .i64 t.so, .string t.name, .slice al t.labels.length cl, .slice ak t.kids.length ck] 25)) := (Below.refl _ _).alloc (Nat.le_refl _) _
  have hA2 : Below w.heap.size w ((w.alloc (.cells #[.int .i64 t.kind, .int .i64 t.so, .string t.name, .slice al t.labels.length cl, .slice ak t.kids.length ck] 25)).alloc (.cells #[.slice none 0 0] 26)) := hA.alloc hA.size _
  have hp : PG ((w.alloc (.cells #[.int .i64 t.kind, .int .i64 t.so, .string t.name, .slice al t.labels.length cl, .slice ak t.kids.length ck] 25)).alloc (.cells #[.slice none 0 0] 26)) (w.heap.size + 1) (.slice none 0 0) [] := ⟨by go_cell, by go_simp, World.ownsRow_nil _ _ _ _, by simp⟩
  have c := lay_all d t al cl ak ck [] none 0 (w.heap.size + 1) (.slice none 0 0) [] w.heap.size ((w.alloc (.cells #[.int .i64 t.kind, .int .i64 t.so, .string t.name, .slice al t.labels.length cl, .slice ak t.kids.length ck] 25)).alloc (.cells #[.slice none 0 0] 26)) hbd (hla.keep hA2) (hkt.keep hA2) hw (.inl ⟨rfl, rfl, rfl⟩) hp (by omega) (by simp; omega) (by simp; omega)
  have HA2 := hideK hA2
  unfold LYPost at c
  simp only [tyVal, List.length_nil] at c ⊢
  clear hbd hla hkt hw hA hA2 hp
  go_enter Tryd.func31, Tryd.ntmps31
  go_wp2_with fail
  refine c.mono ?_
  rintro e w1 ⟨rfl, new, u, hn, hp1, ht1, hr1, _⟩
  have hb1 : Below w.heap.size w w1 := hr1.below HA2.out HA2.out.size (by omega) (by omega) (fun k hk => by simp [Value.ownBlock] at hk)
  have hg := gat_of (P := fun b => b < w1.heap.size) hp1.own (fun x hx => ⟨by
      have h1 := (ht1 x hx).1
      exact h1.imp id fun ⟨b, o, e, hl, hc⟩ => ⟨b, o, e, by have := hb1.size; omega, hc⟩, by
      have h1 := (ht1 x hx).2
      exact h1.imp id fun ⟨b, o, e, hl, hc⟩ => ⟨b, o, e, hl.2.1, hc⟩⟩) (fun b hb => hb)
  rw [List.nil_append, hn] at hg
  obtain ⟨ag, cg, hu, hga⟩ := hg
  have hl : new.length = (layP t [] 0).2.length := by rw [← hn, List.length_map]
  rw [hl] at hu
  have hc1 := hp1.c
  subst hu
  have HG := hideK hga
  have HB := hideK hb1
  clear hp1 ht1 hr1 hga hb1 hn c
  go_wp2_with fail
  go_ret
  exact ⟨⟨_, _, rfl, HG.out⟩, HB.out⟩

/-! ### What Of answers -/
def e0 : ByteArray → Dn := fun _ _ => tr0
theorem okN_to {n : Nd} (h : okN n) (f : Nat → Nat) : okN ⟨n.kind, n.so, n.labs, n.to.map f⟩ := by
  unfold okN at h ⊢
  rw [List.map_map]
  exact h
theorem least_gn {g : List Nd} {c : List Nat} (hg : GN g) (hc : CLS g c) : GN (leastG g c) ∧ (∀ k, gT (leastG g c) k 0 = gT g k 0) ∧ (leastG g c).length ≤ g.length := by
  obtain ⟨h1, h2, h3, h4⟩ := least_alike hg.shut hc hg.pos
  refine ⟨⟨h3, Nat.le_trans h4 hg.le, fun n hn => ?_, h2⟩, h1, h4⟩
  obtain ⟨M, hI, _⟩ := lst_inv hg.shut hc g.length 0 [0] (RInv.start hg.pos) (Nat.zero_le _) (by omega)
  unfold leastG at hn
  obtain ⟨i, hi, rfl⟩ := List.mem_map.1 hn
  exact okN_to (hg.at_ (hI.lt i hi)) _
theorem lay_gn {t : Ty} (h : chkTy t = 0) : GN (layP t [] 0).2 := by
  obtain ⟨hg, _, _⟩ := chkTy_gd t h
  obtain ⟨hw, hs⟩ := chkTy_good t h
  have h1 := (lay_gr h).1
  exact ⟨h1.pos, by have := lay_size t hw [] 0; omega, lay_parts okN (fun t hp h9 h8 tos hl => part_okN hp h9 h8 tos hl) t hg [] 0, h1.shut⟩
/-- g is the least graph of t -/
structure OFG (t : Ty) (g : List Nd) : Prop where
  chk : chkTy t = 0
  src : ∃ c, CLS (layP t [] 0).2 c ∧ g = leastG (layP t [] 0).2 c
theorem OFG.gn {t : Ty} {g : List Nd} (h : OFG t g) : GN g := by
  obtain ⟨c, hc, rfl⟩ := h.src
  exact (least_gn (lay_gn h.chk) hc).1
theorem OFG.le {t : Ty} {g : List Nd} (h : OFG t g) : g.length ≤ 60 := by
  obtain ⟨c, hc, rfl⟩ := h.src
  have h1 := (least_gn (lay_gn h.chk) hc).2.2
  obtain ⟨hw, hs⟩ := chkTy_good t h.chk
  have := lay_size t hw [] 0
  omega
theorem OFG.does {t : Ty} {g : List Nd} (h : OFG t g) : ∀ k, gT g k 0 = den t e0 k := by
  obtain ⟨c, hc, rfl⟩ := h.src
  intro k
  rw [(least_gn (lay_gn h.chk) hc).2.1 k]
  have := (lay_gr h.chk).2
  unfold e0
  rw [this]
/-- one and the same graph just if they do the same -/
theorem OFG.same {s t : Ty} {g h : List Nd} (hs : OFG s g) (ht : OFG t h) : g = h ↔ den s e0 = den t e0 := by
  have d1 := hs.does
  have d2 := ht.does
  obtain ⟨c, hc, rfl⟩ := hs.src
  obtain ⟨c', hc', rfl⟩ := ht.src
  have gs := lay_gn hs.chk
  have gt := lay_gn ht.chk
  constructor
  · intro e
    funext k
    rw [← d1 k, ← d2 k, e]
  · intro e
    refine least_canon ⟨gs.shut, gt.shut, hc, hc'⟩ gs.pos gt.pos fun k => ?_
    rw [← (least_gn gs hc).2.1 k, ← (least_gn gt hc').2.1 k, d1 k, d2 k, e]
/-- what Of leaves -/
def OFPost (t : Ty) (w : World) (e : Ending) (w' : World) : Prop :=
  ((chkTy t ≠ 0 ∧ e = .returned (.tuple #[.slice none 0 0, .int .i64 (chkTy t)])) ∨ (∃ g ag cg, OFG t g ∧ e = .returned (.tuple #[.slice ag g.length cg, .int .i64 0]) ∧ GAt w' w'.heap.size g ag)) ∧ Below w.heap.size w w'
set_option maxRecDepth 100000 in
set_option maxHeartbeats 2000000 in
theorem of_any (d : Nat) (t : Ty) (al : Option Addr) (cl : Nat) (ak : Option Addr) (ck : Nat) (w : World) (hbd : TyBd t cl ck) (hla : LA w w.heap.size t.labels al) (hkt : KT w w.heap.size d t.kids ak) :
    Calls Tryd.prog 8 #[tyVal t al cl ak ck] w (OFPost t w) := by
  have hA : Below w.heap.size w (w.alloc (.cells #[.int .i64 t.kind, .int .i64 t.so, .string t.name, .slice al t.labels.length cl, .slice ak t.kids.length ck] 25)) := (Below.refl _ _).alloc (Nat.le_refl _) _
  have cC := typesCheck_any d t al cl ak ck _ hbd (NAt.mono hA.size (NAt.keep hA hla)) (KT.mono hA.size (KT.keep hA hkt))
  have HA := hideK hA
  unfold OFPost
  by_cases hz : chkTy t = 0
  · rw [hz] at cC
    obtain ⟨hw, hsz⟩ := chkTy_good t hz
    have CW := hideK (fun (W : World) (hb : Below w.heap.size w W) => laid_any d t al cl ak ck W hbd ((hla.keep hb).mono hb.size) ((hkt.keep hb).mono hb.size) hw hsz)
    have CL := hideK (fun (W : World) ag cg (hga : GAt W W.heap.size (layP t [] 0).2 ag) => least_loop (layP t [] 0).2 ag cg W.heap.size W (lay_gn hz).gr hga (Nat.le_refl _))
    simp only [tyVal] at cC CW ⊢
    have HZ := hideK hz
    clear hbd hla hkt hz hw hsz hA
    go_enter Tryd.func8, Tryd.ntmps8
    go_wp2_with fail
    refine cC.mono ?_
    rintro e w1 ⟨rfl, hb1⟩
    obtain ⟨x0, x1, x2, x3, x4, hbw⟩ := keep5 hb1
    have cW := CW.out w1 hbw
    have HB := hideK hbw
    clear cC CW hbw
    go_wp2_with fail
    refine cW.mono ?_
    rintro e w2 ⟨⟨ag, cg, rfl, hga⟩, hb2⟩
    have cL := CL.out w2 ag cg hga
    have HB2 := hideK (HB.out.trans (hb2.mono HB.out.size))
    clear cW CL hga hb2
    generalize hG : (layP t [] 0).2 = G at *
    go_wp2_with fail
    refine cL.mono ?_
    rintro e w3 ⟨⟨c, hc, ao, co, rfl, hg3⟩, hb3⟩
    have HB3 := hideK (HB2.out.trans (hb3.mono HB2.out.size))
    have HC := hideK hc
    have HG3 := hideK hg3
    clear cL hc hg3 hb3
    generalize hgl : leastG G c = g at *
    go_wp2_with fail
    go_ret2
    exact ⟨.inr ⟨g, _, _, ⟨HZ.out, c, by rw [hG]; exact HC.out, by rw [hG]; exact hgl.symm⟩, rfl, HG3.out⟩, HB3.out⟩
  · have hzb : (chkTy t != 0) = true := by simpa using hz
    simp only [tyVal] at cC ⊢
    have HZ := hideK hz
    clear hbd hla hkt hz hA
    generalize hgz : chkTy t = z at cC hzb ⊢
    go_enter Tryd.func8, Tryd.ntmps8
    go_wp2_with fail
    refine cC.mono ?_
    rintro e w1 ⟨rfl, hb1⟩
    obtain ⟨x0, x1, x2, x3, x4, hbw⟩ := keep5 hb1
    clear cC
    go_wp2_with fail
    go_ret2
    exact ⟨.inl ⟨by rw [← hgz]; exact HZ.out, rfl⟩, hbw⟩
end Go.Proofs.YtnlpnbelkkgghaaDoor

/-
  Plain mathematics: a type in the place of a name: what that does, and what Check says of it; BEKIC and MILNER of types.
-/
namespace Go.Proofs.YtnlpnbelkkgghaaDoor

/-- s in the place of the name x -/
def putT (x : ByteArray) (s : Ty) : Ty → Ty
  | ⟨kd, so, nm, ls, ks⟩ => if kd = 9 ∧ nm = x then s else if kd = 8 ∧ nm = x then ⟨kd, so, nm, ls, ks⟩ else ⟨kd, so, nm, ls, ks.map (putT x s)⟩
theorem putT_var (x : ByteArray) (s t : Ty) (h : t.kind = 9 ∧ t.name = x) : putT x s t = s := by cases t; rw [putT, if_pos h]
theorem putT_rec (x : ByteArray) (s t : Ty) (h : t.kind = 8 ∧ t.name = x) : putT x s t = t := by
  cases t
  rw [putT, if_neg (by rintro ⟨h9, _⟩; have h8 := h.1; simp only at h8 h9; omega), if_pos h]
theorem putT_else (x : ByteArray) (s t : Ty) (h9 : ¬ (t.kind = 9 ∧ t.name = x)) (h8 : ¬ (t.kind = 8 ∧ t.name = x)) : putT x s t = ⟨t.kind, t.so, t.name, t.labels, t.kids.map (putT x s)⟩ := by
  cases t
  rw [putT, if_neg h9, if_neg h8]
/-- does a name stand in it that no Rec in it binds? -/
def frT (x : ByteArray) : Ty → Bool
  | ⟨kd, _, nm, _, ks⟩ => if kd = 9 then decide (nm = x) else if kd = 8 ∧ nm = x then false else (ks.map fun q => frT x q).any id
theorem frT_var (x : ByteArray) (t : Ty) (h : t.kind = 9) : frT x t = decide (t.name = x) := by cases t; rw [frT, if_pos h]
theorem frT_rec (x : ByteArray) (t : Ty) (h : t.kind = 8 ∧ t.name = x) : frT x t = false := by
  cases t
  rw [frT, if_neg (by have h8 := h.1; simp only at h8; omega), if_pos h]
theorem frT_else (x : ByteArray) (t : Ty) (h9 : t.kind ≠ 9) (h8 : ¬ (t.kind = 8 ∧ t.name = x)) : frT x t = t.kids.any (frT x) := by
  cases t
  rw [frT, if_neg h9, if_neg h8, List.any_map]
  rfl
/-- a name c of what is put there would be caught -/
def capT (x c : ByteArray) : Ty → Bool
  | ⟨kd, _, nm, _, ks⟩ => if kd = 9 ∧ nm = x then false else if kd = 8 ∧ nm = x then false else if kd = 8 ∧ nm = c ∧ ks.any (frT x) = true then true else (ks.map fun q => capT x c q).any id
theorem capT_var (x c : ByteArray) (t : Ty) (h : t.kind = 9 ∧ t.name = x) : capT x c t = false := by cases t; rw [capT, if_pos h]
theorem capT_rec (x c : ByteArray) (t : Ty) (h : t.kind = 8 ∧ t.name = x) : capT x c t = false := by
  cases t
  rw [capT, if_neg (by rintro ⟨h9, _⟩; have h8 := h.1; simp only at h8 h9; omega), if_pos h]
theorem capT_yes (x c : ByteArray) (t : Ty) (h8 : ¬ (t.kind = 8 ∧ t.name = x)) (h : t.kind = 8 ∧ t.name = c ∧ t.kids.any (frT x) = true) : capT x c t = true := by
  cases t
  rw [capT, if_neg (by rintro ⟨h9, _⟩; have h8 := h.1; simp only at h8 h9; omega), if_neg h8, if_pos h]
theorem capT_else (x c : ByteArray) (t : Ty) (h9 : ¬ (t.kind = 9 ∧ t.name = x)) (h8 : ¬ (t.kind = 8 ∧ t.name = x)) (h : ¬ (t.kind = 8 ∧ t.name = c ∧ t.kids.any (frT x) = true)) : capT x c t = t.kids.any (capT x c) := by
  cases t
  rw [capT, if_neg h9, if_neg h8, if_neg h, List.any_map]
  rfl
theorem any_false {α : Type} {l : List α} {p : α → Bool} (h : l.any p = false) : ∀ a ∈ l, p a = false := by
  intro a ha
  cases hp : p a with
  | false => rfl
  | true => rw [List.any_eq_true.2 ⟨a, ha, hp⟩] at h; cases h
/-- names that are not free are of no account -/
theorem fr_den (x : ByteArray) : ∀ t : Ty, wfT t → frT x t = false → ∀ r d, den t (upD r x d) = den t r := by
  apply tyInd
  intro t ih hw hf r d
  obtain ⟨hp, hk⟩ := (wfT_eq t).1 hw
  by_cases h9 : t.kind = 9
  · rw [frT_var x t h9] at hf
    rw [den_var t _ h9, den_var t _ h9]
    unfold upD
    rw [if_neg (by simpa using hf)]
  by_cases h8 : t.kind = 8
  · obtain ⟨q, hq⟩ := part_rec hp h8
    have hm : q ∈ t.kids := by rw [hq]; exact .head _
    rw [den_rec t _ h8 q hq, den_rec t _ h8 q hq]
    have e : (fun f => den q (upD (upD r x d) t.name f)) = fun f => den q (upD r t.name f) := funext fun f => by
      by_cases hn : t.name = x
      · congr 1
        funext y
        unfold upD
        by_cases hy : y = t.name
        · rw [if_pos hy, if_pos hy]
        · rw [if_neg hy, if_neg hy, if_neg (by rw [← hn]; exact hy)]
      · rw [frT_else x t h9 (fun h => hn h.2)] at hf
        have hfq := any_false hf q hm
        have e2 : upD (upD r x d) t.name f = upD (upD r t.name f) x d := by
          funext y
          unfold upD
          by_cases hy : y = t.name
          · rw [if_pos hy, if_pos hy, if_neg (by rw [hy]; exact hn)]
          · rw [if_neg hy, if_neg hy]
        rw [e2]
        exact ih q hm (hk q hm) hfq _ d
    rw [e]
  · rw [frT_else x t h9 (fun h => h8 h.1)] at hf
    rw [den_node t _ h9 h8, den_node t _ h9 h8]
    congr 1
    exact List.map_congr_left fun q hq => ih q hq (hk q hq) (any_false hf q hq) r d
/-- what it does, where nothing is caught -/
theorem put_den (x c : ByteArray) (s : Ty) (hws : wfT s) (hs : clT s [c]) : ∀ t : Ty, wfT t → capT x c t = false → ∀ r, den (putT x s t) r = den t (upD r x (den s r)) := by
  apply tyInd
  intro t ih hw hc r
  obtain ⟨hp, hk⟩ := (wfT_eq t).1 hw
  by_cases h9x : t.kind = 9 ∧ t.name = x
  · rw [putT_var x s t h9x, den_var t _ h9x.1]
    unfold upD
    rw [if_pos h9x.2]
  by_cases h8x : t.kind = 8 ∧ t.name = x
  · rw [putT_rec x s t h8x]
    exact (fr_den x t hw (frT_rec x t h8x) r _).symm
  rw [putT_else x s t h9x h8x]
  by_cases h9 : t.kind = 9
  · rw [den_var t _ h9, den_var _ _ (by exact h9)]
    unfold upD
    rw [if_neg (fun h => h9x ⟨h9, h⟩)]
  by_cases h8 : t.kind = 8
  · obtain ⟨q, hq⟩ := part_rec hp h8
    have hm : q ∈ t.kids := by rw [hq]; exact .head _
    have hn : ¬ t.name = x := fun h => h8x ⟨h8, h⟩
    have hcq : capT x c q = false := by
      by_cases hy : t.kind = 8 ∧ t.name = c ∧ t.kids.any (frT x) = true
      · rw [capT_yes x c t h8x hy] at hc; cases hc
      · rw [capT_else x c t h9x h8x hy] at hc; exact any_false hc q hm
    rw [den_rec t _ h8 q hq, den_rec _ _ (by exact h8) (putT x s q) (by simp [hq])]
    have e : (fun f => den (putT x s q) (upD r t.name f)) = fun f => den q (upD (upD r x (den s r)) t.name f) := funext fun f => by
      rw [ih q hm (hk q hm) hcq]
      have e2 : ∀ d, upD (upD r t.name f) x d = upD (upD r x d) t.name f := fun d => by
        funext y
        unfold upD
        by_cases hy : y = t.name
        · rw [if_pos hy, if_pos hy, if_neg (by rw [hy]; exact hn)]
        · rw [if_neg hy, if_neg hy]
      by_cases hnc : t.name = c
      · by_cases hy : t.kids.any (frT x) = true
        · rw [capT_yes x c t h8x ⟨h8, hnc, hy⟩] at hc; cases hc
        · have hfq : frT x q = false := any_false (by simpa using hy) q hm
          rw [fr_den x q (hk q hm) hfq, ← e2, fr_den x q (hk q hm) hfq]
      · rw [den_cl s hws [c] (upD r t.name f) r hs (fun y hy => by
          rw [List.mem_singleton] at hy
          subst hy
          unfold upD
          rw [if_neg (fun h => hnc h.symm)]), e2]
    have e3 : (⟨t.kind, t.so, t.name, t.labels, t.kids.map (putT x s)⟩ : Ty).name = t.name := rfl
    rw [e3, e]
  · have hc' : t.kids.any (capT x c) = false := by rw [capT_else x c t h9x h8x (fun h => h8 h.1)] at hc; exact hc
    rw [den_node t _ h9 h8, den_node _ _ (by exact h9) (by exact h8)]
    simp only [List.map_map]
    congr 1
    exact List.map_congr_left fun q hq => ih q hq (hk q hq) (any_false hc' q hq) r
/-! ### What Check says -/
theorem clT_mono : ∀ t : Ty, ∀ ns ms, (∀ y ∈ ns, y ∈ ms) → clT t ns → clT t ms := by
  apply tyInd
  intro t ih ns ms h hc
  obtain ⟨c1, c2⟩ := (clT_eq t ns).1 hc
  refine (clT_eq t ms).2 ⟨fun h9 => h _ (c1 h9), fun k hk => ih k hk _ _ (fun y hy => ?_) (c2 k hk)⟩
  by_cases h8 : t.kind = 8
  · rw [if_pos h8] at hy ⊢
    rcases List.mem_append.1 hy with hy | hy
    · exact List.mem_append.2 (.inl (h y hy))
    · exact List.mem_append.2 (.inr hy)
  · rw [if_neg h8] at hy ⊢; exact h y hy
theorem put_cl (x : ByteArray) (s : Ty) : ∀ t : Ty, ∀ ns ms, (∀ y ∈ ns, y ≠ x → y ∈ ms) → clT s ms → clT t ns → clT (putT x s t) ms := by
  apply tyInd
  intro t ih ns ms h hs hc
  obtain ⟨c1, c2⟩ := (clT_eq t ns).1 hc
  by_cases h9x : t.kind = 9 ∧ t.name = x
  · rw [putT_var x s t h9x]; exact hs
  by_cases h8x : t.kind = 8 ∧ t.name = x
  · rw [putT_rec x s t h8x]
    refine (clT_eq t ms).2 ⟨fun h9 => absurd (h8x.1.symm.trans h9) (by decide), fun k hk => ?_⟩
    refine clT_mono k _ _ (fun y hy => ?_) (c2 k hk)
    rw [if_pos h8x.1] at hy ⊢
    rcases List.mem_append.1 hy with hy | hy
    · by_cases hyx : y = x
      · exact List.mem_append.2 (.inr (by rw [hyx, h8x.2]; exact .head _))
      · exact List.mem_append.2 (.inl (h y hy hyx))
    · exact List.mem_append.2 (.inr hy)
  rw [putT_else x s t h9x h8x]
  refine (clT_eq _ ms).2 ⟨fun h9 => h _ (c1 h9) (fun e => h9x ⟨h9, e⟩), fun k hk => ?_⟩
  obtain ⟨q, hq, rfl⟩ := List.mem_map.1 hk
  refine ih q hq _ _ (fun y hy hyx => ?_) ?_ (c2 q hq)
  · show y ∈ if t.kind = 8 then ms ++ [t.name] else ms
    by_cases h8 : t.kind = 8
    · rw [if_pos h8] at hy ⊢
      rcases List.mem_append.1 hy with hy | hy
      · exact List.mem_append.2 (.inl (h y hy hyx))
      · exact List.mem_append.2 (.inr hy)
    · rw [if_neg h8] at hy ⊢; exact h y hy hyx
  · show clT s (if t.kind = 8 then ms ++ [t.name] else ms)
    by_cases h8 : t.kind = 8
    · rw [if_pos h8]; exact clT_mono s _ _ (fun y hy => List.mem_append.2 (.inl hy)) hs
    · rw [if_neg h8]; exact hs
theorem put_id (x : ByteArray) (s : Ty) : ∀ t : Ty, wfT t → idT t = false → idT (putT x s t) = false := by
  apply tyInd
  intro t ih hw hi
  obtain ⟨hp, hk⟩ := (wfT_eq t).1 hw
  by_cases h9 : t.kind = 9
  · rw [idT_var t h9] at hi; cases hi
  have h9x : ¬ (t.kind = 9 ∧ t.name = x) := fun h => h9 h.1
  by_cases h8x : t.kind = 8 ∧ t.name = x
  · rw [putT_rec x s t h8x]; exact hi
  rw [putT_else x s t h9x h8x]
  by_cases h8 : t.kind = 8
  · obtain ⟨q, hq⟩ := part_rec hp h8
    have hm : q ∈ t.kids := by rw [hq]; exact .head _
    rw [idT_rec t h8 q hq] at hi
    rw [idT_rec _ (by exact h8) (putT x s q) (by simp [hq])]
    exact ih q hm (hk q hm) hi
  · exact idT_node _ (by exact h9) (by exact h8)
theorem part_kids {t : Ty} (ks : List Ty) (hl : ks.length = t.kids.length) (h : partT t = true) : partT ⟨t.kind, t.so, t.name, t.labels, ks⟩ = true := by
  rw [← h]
  unfold partT
  simp only [hl]
theorem put_gd (x : ByteArray) (s : Ty) (hs : gdT s) : ∀ t : Ty, gdT t → gdT (putT x s t) := by
  apply tyInd
  intro t ih hg
  obtain ⟨hp, hi, hk⟩ := (gdT_eq t).1 hg
  by_cases h9x : t.kind = 9 ∧ t.name = x
  · rw [putT_var x s t h9x]; exact hs
  by_cases h8x : t.kind = 8 ∧ t.name = x
  · rw [putT_rec x s t h8x]; exact hg
  rw [putT_else x s t h9x h8x]
  refine (gdT_eq _).2 ⟨part_kids _ (by simp) hp, fun h8 => ?_, fun k hk' => ?_⟩
  · have := put_id x s t (gdT_wf t hg) (hi h8)
    rw [putT_else x s t h9x h8x] at this
    exact this
  · obtain ⟨q, hq, rfl⟩ := List.mem_map.1 hk'
    exact ih q hq (hk q hq)
theorem sum_map_le {l : List Ty} {f g : Ty → Nat} {c : Nat} (h : ∀ a ∈ l, f a ≤ g a * c) : (l.map f).sum ≤ (l.map g).sum * c := by
  induction l with
  | nil => simp
  | cons a l ih =>
    simp only [List.map_cons, List.sum_cons, Nat.add_mul]
    exact Nat.add_le_add (h a (.head _)) (ih fun b hb => h b (.tail _ hb))
theorem put_size (x : ByteArray) (s : Ty) : ∀ t : Ty, sizeT (putT x s t) ≤ sizeT t * sizeT s := by
  have h1 := sizeT_eq s
  apply tyInd
  intro t ih
  have h2 := sizeT_eq t
  by_cases h9x : t.kind = 9 ∧ t.name = x
  · rw [putT_var x s t h9x]
    exact Nat.le_mul_of_pos_left _ (by omega)
  by_cases h8x : t.kind = 8 ∧ t.name = x
  · rw [putT_rec x s t h8x]
    exact Nat.le_mul_of_pos_right _ (by omega)
  rw [putT_else x s t h9x h8x, sizeT_eq, h2, Nat.add_mul, Nat.one_mul]
  simp only [List.map_map]
  exact Nat.add_le_add (by omega) (sum_map_le (f := sizeT ∘ putT x s) fun a ha => ih a ha)
theorem chkTL_or (ar : List ByteArray) (ks : List Ty) : ∀ (a : Int × Nat), a.1 = 0 → (∀ k ∈ ks, ∀ c, (chkT k ar c).1 = 0 ∨ ((chkT k ar c).1 = 2 ∧ 60 < c + sizeT k)) → (chkTL ar ks a).1 = 0 ∨ ((chkTL ar ks a).1 = 2 ∧ 60 < a.2 + (ks.map sizeT).sum) := by
  induction ks with
  | nil => intro a h _; exact .inl h
  | cons k ks ih =>
    intro a h hk
    rw [chkTL_cons, if_neg (by simpa using h)]
    simp only [List.map_cons, List.sum_cons]
    rcases hk k (.head _) a.2 with h1 | ⟨h1, h2⟩
    · have h3 := (chkT_all k ar a.2 h1).2
      rcases ih _ h1 (fun q hq => hk q (.tail _ hq)) with h4 | ⟨h4, h5⟩
      · exact .inl h4
      · exact .inr ⟨h4, by rw [h3] at h5; omega⟩
    · rw [chkTL_bad _ _ _ (by rw [h1]; decide)]
      exact .inr ⟨h1, by omega⟩
theorem chkT_or : ∀ t : Ty, ∀ ar c, gdT t → clT t ar → sizeT t ≤ 65536 → (chkT t ar c).1 = 0 ∨ ((chkT t ar c).1 = 2 ∧ 60 < c + sizeT t) := by
  apply tyInd
  intro t ih ar c hg hc hs
  obtain ⟨hp, hi, hk⟩ := (gdT_eq t).1 hg
  obtain ⟨c1, c2⟩ := (clT_eq t ar).1 hc
  have h1 := sizeT_eq t
  rw [chkT_eq]
  by_cases h60 : 60 < c + 1
  · rw [if_pos h60]; exact .inr ⟨rfl, by omega⟩
  rw [if_neg h60, if_neg (by rw [hp]; decide), if_neg (by rintro ⟨h9, hh⟩; rw [(hasN_iff _ _).2 (c1 h9)] at hh; cases hh), if_neg (by rintro ⟨h8, hh⟩; rw [idle_idT t (gdT_wf t hg) 65536 hs, hi h8] at hh; cases hh)]
  rcases chkTL_or (if t.kind = 8 then ar ++ [t.name] else ar) t.kids (0, c + 1) rfl (fun k hm c' => ih k hm _ c' (hk k hm) (c2 k hm) (by have := sizeT_kid hm; omega)) with h | ⟨h, h2⟩
  · exact .inl h
  · exact .inr ⟨h, by simp only at h2; omega⟩
/-- what Check lets by, and what is too large -/
theorem chkTy_or {t : Ty} (hg : gdT t) (hc : clT t []) (hs : sizeT t ≤ 65536) : chkTy t = 0 ∨ (chkTy t = 2 ∧ 60 < sizeT t) := by
  have := chkT_or t [] 0 hg hc hs
  rw [Nat.zero_add] at this
  exact this
/-! ### The two laws -/
def varT (x : ByteArray) : Ty := ⟨9, 0, x, [], []⟩
def recT (x : ByteArray) (b : Ty) : Ty := ⟨8, 0, x, [], [b]⟩
theorem var_gd {x : ByteArray} (h : isVr x.data.toList = true) : gdT (varT x) := (gdT_eq _).2 ⟨by unfold partT varT; simp [h], fun h8 => absurd (show (9 : Int) = 8 from h8) (by decide), fun k hk => (by cases hk)⟩
theorem cap_none (x : ByteArray) : ∀ t : Ty, wfT t → capT x ⟨#[]⟩ t = false := by
  apply tyInd
  intro t ih hw
  obtain ⟨hp, hk⟩ := (wfT_eq t).1 hw
  by_cases h9x : t.kind = 9 ∧ t.name = x
  · exact capT_var x _ t h9x
  by_cases h8x : t.kind = 8 ∧ t.name = x
  · exact capT_rec x _ t h8x
  have hn : ¬ (t.kind = 8 ∧ t.name = ⟨#[]⟩ ∧ t.kids.any (frT x) = true) := by
    rintro ⟨h8, he, _⟩
    unfold partT at hp
    simp [h8, he] at hp
    exact absurd hp.1.1.2 (by decide)
  rw [capT_else x _ t h9x h8x hn]
  rw [Bool.eq_false_iff]
  intro ha
  obtain ⟨k, hm, hc⟩ := List.any_eq_true.1 ha
  rw [ih k hm (hk k hm)] at hc; cases hc
end Go.Proofs.YtnlpnbelkkgghaaDoor
