/-
  Plain mathematics: what is fine at one end is fine at the other one, seen from there.
-/
import Derived.Test.YtnlpnbelkkgghaaDoorJf
import Derived.Test.YtnlpnbelkkgghaaDoorMi
import Derived.Test.YtnlpnbelkkgghaaDoorKa
namespace Go.Proofs.YtnlpnbelkkgghaaDoor
open Go.RowKit Go.Shelf

/-- node j of h does what node i of g does, seen from the other end -/
structure RL (g h : List Nd) (i j : Nat) : Prop where
  hi : i < g.length
  hj : j < h.length
  al : ∀ k, gT h k j = gT (othG g) k i
def dualE (x : Ev) : Ev := ⟨kdD x.kind, x.so, x.n, x.s, x.carry, x.label⟩
theorem kdD_else {k : Int} (h2 : k ≠ 2) (h3 : k ≠ 3) (h4 : k ≠ 4) (h5 : k ≠ 5) (h6 : k ≠ 6) (h7 : k ≠ 7) : kdD k = k := by
  unfold kdD
  rw [if_neg h2, if_neg h3, if_neg h4, if_neg h5, if_neg h6, if_neg h7]
theorem kdD2 (k : Int) : kdD (kdD k) = k := by
  by_cases h2 : k = 2
  · subst h2; decide
  by_cases h3 : k = 3
  · subst h3; decide
  by_cases h4 : k = 4
  · subst h4; decide
  by_cases h5 : k = 5
  · subst h5; decide
  by_cases h6 : k = 6
  · subst h6; decide
  by_cases h7 : k = 7
  · subst h7; decide
  rw [kdD_else h2 h3 h4 h5 h6 h7, kdD_else h2 h3 h4 h5 h6 h7]
theorem kdD_range {k : Int} : ((kdD k = 2 ∨ kdD k = 3) ↔ (k = 2 ∨ k = 3)) ∧ ((kdD k = 4 ∨ kdD k = 5) ↔ (k = 4 ∨ k = 5)) ∧ ((kdD k = 6 ∨ kdD k = 7) ↔ (k = 6 ∨ k = 7)) ∧ (kdD k = 1 ↔ k = 1) := by
  unfold kdD
  repeat' split
  all_goals omega
theorem bare_kind (k k' so n : Int) (s : ByteArray) (t : Ty) (l : ByteArray) : bareE ⟨k, so, n, s, t, l⟩ = bareE ⟨k', so, n, s, t, l⟩ := rfl
theorem evE_dual (V : ByteArray → Bool) (x : Ev) : evE V (dualE x) = evE V x := by
  obtain ⟨h1, h2, h3, _⟩ := kdD_range (k := x.kind)
  unfold evE dualE
  simp only
  rw [bare_kind (kdD x.kind) x.kind, bare_kind (kdD x.kind) x.kind, bare_kind (kdD x.kind) x.kind]
  by_cases a : x.kind = 2 ∨ x.kind = 3
  · rw [if_pos (h1.2 a), if_pos a]
  rw [if_neg (fun q => a (h1.1 q)), if_neg a]
  by_cases b : x.kind = 4 ∨ x.kind = 5
  · rw [if_pos (h2.2 b), if_pos b]
  rw [if_neg (fun q => b (h2.1 q)), if_neg b]
  by_cases c : x.kind = 6 ∨ x.kind = 7
  · rw [if_pos (h3.2 c), if_pos c]
  rw [if_neg (fun q => c (h3.1 q)), if_neg c]
theorem doer_dual {k : Int} (h : 2 ≤ k ∧ k ≤ 7) : (doerZ k = 1 ∧ doerZ (kdD k) = 2) ∨ (doerZ k = 2 ∧ doerZ (kdD k) = 1) := by
  have : k = 2 ∨ k = 3 ∨ k = 4 ∨ k = 5 ∨ k = 6 ∨ k = 7 := by omega
  rcases this with rfl | rfl | rfl | rfl | rfl | rfl <;> decide
theorem RL.node {g h : List Nd} {i j : Nat} (r : RL g h i j) : (nodeAt h j).kind = kdD (nodeAt g i).kind ∧ (nodeAt h j).so = (nodeAt g i).so ∧ (nodeAt h j).labs = (nodeAt g i).labs ∧ (nodeAt h j).to.length = (nodeAt g i).to.length ∧ ∀ p, p < (nodeAt g i).to.length → ∀ k, gT h k (toAt (nodeAt h j) p) = gT (othG g) k (toAt (othT g.length (nodeAt g i)) p) := by
  have h1 : ∀ k, (⟨(nodeAt h j).kind, (nodeAt h j).so, (nodeAt h j).labs, (nodeAt h j).to.map (gT h k)⟩ : Tr) = ⟨(othT g.length (nodeAt g i)).kind, (othT g.length (nodeAt g i)).so, (othT g.length (nodeAt g i)).labs, (othT g.length (nodeAt g i)).to.map (gT (othG g) k)⟩ := fun k => by
    have := r.al (k + 1)
    have e1 : gT h (k + 1) j = ⟨(nodeAt h j).kind, (nodeAt h j).so, (nodeAt h j).labs, (nodeAt h j).to.map (gT h k)⟩ := rfl
    have e2 : gT (othG g) (k + 1) i = ⟨(nodeAt (othG g) i).kind, (nodeAt (othG g) i).so, (nodeAt (othG g) i).labs, (nodeAt (othG g) i).to.map (gT (othG g) k)⟩ := rfl
    rw [e1, e2, oth_at1 r.hi] at this
    exact this
  have hlen : (nodeAt h j).to.length = (othT g.length (nodeAt g i)).to.length := by
    have := h1 0
    injection this with _ _ _ q
    have := congrArg List.length q
    simpa using this
  have hlen2 : (othT g.length (nodeAt g i)).to.length = (nodeAt g i).to.length := tuL_len _ _
  have h0 := h1 0
  injection h0 with q1 q2 q3 _
  refine ⟨q1, q2, q3, hlen.trans hlen2, fun p hp k => ?_⟩
  have hk := h1 k
  injection hk with _ _ _ q
  rw [toAt_get _ (show p < (nodeAt h j).to.length by omega), toAt_get _ (show p < (othT g.length (nodeAt g i)).to.length by omega)]
  have := congrArg (fun l => l[p]?) q
  simp only [List.getElem?_map] at this
  rw [List.getElem?_eq_getElem (show p < (nodeAt h j).to.length by omega), List.getElem?_eq_getElem (show p < (othT g.length (nodeAt g i)).to.length by omega)] at this
  simpa using this
theorem mayC_resp {g h : List Nd} (hg : GN g) (hh : GN h) {p q : Nat} (hp : p < g.length) (hq : q < h.length) (e : ∀ k, gT h k q = gT g k p) (t : Ty) : mayC h q t ↔ mayC g p t := by
  constructor
  · rintro ⟨c, hc, hb⟩
    exact ⟨c, hc, fun k => (bl_resp hc.gn hg hc.gn hh hc.gn.pos hp hc.gn.pos hq rfl (e k)).1 (hb k)⟩
  · rintro ⟨c, hc, hb⟩
    exact ⟨c, hc, fun k => (bl_resp hc.gn hg hc.gn hh hc.gn.pos hp hc.gn.pos hq rfl (e k)).2 (hb k)⟩
theorem goes_dual {g h : List Nd} (hg : GN g) (hh : GN h) {i j : Nat} (r : RL g h i j) (x : Ev) : (∀ i', goesE g i x i' → ∃ j', goesE h j (dualE x) j' ∧ RL g h i' j') ∧ ((∀ i', ¬ goesE g i x i') → ∀ j', ¬ goesE h j (dualE x) j') := by
  obtain ⟨n1, n2, n3, n4, n5⟩ := r.node
  have om := hg.at_ r.hi
  have lm := okN_len om
  obtain ⟨d1, d2, d3, _⟩ := kdD_range (k := x.kind)
  have kk : (nodeAt h j).kind = kdD x.kind ↔ (nodeAt g i).kind = x.kind := by
    rw [n1]
    exact ⟨fun q => by rw [← kdD2 (nodeAt g i).kind, q, kdD2], fun q => by rw [q]⟩
  have hto : ∀ p, p < (nodeAt g i).to.length → toAt (nodeAt h j) p < h.length := fun p hp => hh.to_ p (i := j) (by omega)
  have htg : ∀ p, p < (nodeAt g i).to.length → toAt (nodeAt g i) p < g.length := fun p hp => hg.to_ p (i := i) hp
  have hx : ∀ p, p < (nodeAt g i).to.length → ¬ ((nodeAt g i).kind = 4 ∨ (nodeAt g i).kind = 5) → RL g h (toAt (nodeAt g i) p) (toAt (nodeAt h j) p) := fun p hp hk => ⟨htg p hp, hto p hp, fun k => by rw [n5 p hp k, tuL_x hk]⟩
  have hc : (nodeAt g i).kind = 4 ∨ (nodeAt g i).kind = 5 → (∀ t, mayC h (toAt (nodeAt h j) 0) t ↔ mayC g (toAt (nodeAt g i) 0) t) ∧ RL g h (toAt (nodeAt g i) 1) (toAt (nodeAt h j) 1) := fun hk => by
    have h1 := lm.2.1 hk
    obtain ⟨t0, t1⟩ := tuL_0 (N := g.length) hk h1
    refine ⟨fun t => mayC_resp hg hh (htg 0 (by omega)) (hto 0 (by omega)) (fun k => ?_) t, htg 1 h1, hto 1 h1, fun k => by rw [n5 1 h1 k, t1]⟩
    rw [n5 0 (by omega) k, t0]
    exact oth_kept hg k _ (htg 0 (by omega))
  unfold goesE dualE
  simp only
  constructor
  · rintro i' ⟨hk, q | q | q⟩
    · obtain ⟨q1, q2, rfl⟩ := q
      have h0 := lm.1 (by omega)
      exact ⟨_, ⟨kk.2 hk, .inl ⟨d1.2 q1, by rw [n2]; exact q2, rfl⟩⟩, hx 0 h0 (by omega)⟩
    · obtain ⟨q1, q2, rfl⟩ := q
      obtain ⟨c1, c2⟩ := hc (by omega)
      exact ⟨_, ⟨kk.2 hk, .inr (.inl ⟨d2.2 q1, (c1 _).2 q2, rfl⟩)⟩, c2⟩
    · obtain ⟨q1, q2, rfl⟩ := q
      have hl := lm.2.2 _ (idxB_lt q2)
      refine ⟨_, ⟨kk.2 hk, .inr (.inr ⟨d3.2 q1, by rw [n3]; exact q2, rfl⟩)⟩, ?_⟩
      rw [n3]
      exact hx _ hl (by omega)
  · rintro H j' ⟨hk, q | q | q⟩
    · exact H _ ⟨kk.1 hk, .inl ⟨d1.1 q.1, by rw [← n2]; exact q.2.1, rfl⟩⟩
    · have q1 := d2.1 q.1
      have hk' := kk.1 hk
      exact H _ ⟨hk', .inr (.inl ⟨q1, ((hc (by omega)).1 _).1 q.2.1, rfl⟩)⟩
    · exact H _ ⟨kk.1 hk, .inr (.inr ⟨d3.1 q.1, by rw [← n3]; exact q.2.1, rfl⟩)⟩
/-- both monitors tell of each other -/
structure MM (g h : List Nd) (i j : Nat) (dn bl dm bm : Int) : Prop where
  r : RL g h i j
  d : dm = dn
  b : (bl = 0 ∧ bm = 0) ∨ (bl = 1 ∧ bm = 2) ∨ (bl = 2 ∧ bm = 1)
theorem mirror_step {V : ByteArray → Bool} {g h : List Nd} (hg : GN g) (hh : GN h) {i j : Nat} {dn bl dm bm : Int} (m : MM g h i j dn bl dm bm) {x : Ev} {i' : Nat} {dn' bl' v z : Int} (t1 : TKR V g i dn bl x i' dn' bl' v z) {j' : Nat} {dm' bm' u y : Int} (t2 : TKR V h j dm bm (dualE x) j' dm' bm' u y) (hf : ∀ a b, goesE h j (dualE x) a → goesE h j (dualE x) b → a = b) : z = y ∧ (z = 0 → (v = 0 ∧ u = 0) ∨ (v = 1 ∧ u = 2) ∨ (v = 2 ∧ u = 1)) ∧ MM g h i' j' dn' bl' dm' bm' := by
  obtain ⟨G1, G2⟩ := goes_dual hg hh m.r x
  have hb := m.b
  have hd := m.d
  unfold TKR at t1 t2
  rw [evE_dual] at t2
  rcases t1 with ⟨a1, rfl, rfl, rfl, rfl, rfl⟩ | ⟨a1, rfl, a3⟩
  · rcases t2 with ⟨_, rfl, rfl, rfl, rfl, rfl⟩ | ⟨a2, _⟩
    · exact ⟨rfl, fun q => absurd q a1, m⟩
    · exact absurd a2 a1
  · rcases t2 with ⟨a2, _⟩ | ⟨_, rfl, b3⟩
    · exact absurd a1 a2
    · have hkx := evE_kind a1
      rcases a3 with ⟨c1, rfl, rfl, rfl, rfl⟩ | ⟨c1, c2⟩
      · rcases b3 with ⟨_, rfl, rfl, rfl, rfl⟩ | ⟨d1, _⟩
        · exact ⟨rfl, fun _ => hb, m⟩
        · omega
      · rcases b3 with ⟨d1, _⟩ | ⟨_, d2⟩
        · omega
        · rcases c2 with ⟨e1, rfl, rfl, rfl⟩ | ⟨e1, rfl, rfl, rfl, rfl⟩
          · obtain ⟨q, hq, hr⟩ := G1 _ e1
            rcases d2 with ⟨f1, rfl, rfl, rfl⟩ | ⟨f1, _⟩
            · have := hf _ _ hq f1
              subst this
              exact ⟨rfl, fun _ => .inl ⟨rfl, rfl⟩, ⟨hr, by rw [hd], .inl ⟨rfl, rfl⟩⟩⟩
            · exact absurd hq (f1 q)
          · rcases d2 with ⟨f1, _⟩ | ⟨_, rfl, rfl, rfl, rfl⟩
            · exact absurd f1 (G2 e1 _)
            · have hdo := doer_dual hkx
              have hde : (dualE x).kind = kdD x.kind := rfl
              rw [hde]
              exact ⟨rfl, fun _ => by omega, ⟨m.r, hd, by omega⟩⟩
theorem goes_one {g : List Nd} {i : Nat} {x : Ev} : ∀ a b, goesE g i x a → goesE g i x b → a = b := by
  rintro a b ⟨_, p⟩ ⟨_, q⟩
  rcases p with ⟨p1, _, p3⟩ | ⟨p1, _, p3⟩ | ⟨p1, _, p3⟩ <;> rcases q with ⟨q1, _, q3⟩ | ⟨q1, _, q3⟩ | ⟨q1, _, q3⟩ <;> first | exact p3.trans q3.symm | (exfalso; omega)
theorem mirror_state {g h : List Nd} {i j : Nat} {dn bl dm bm : Int} (m : MM g h i j dn bl dm bm) : (nxtZ g i bl == 1) = (nxtZ h j bm == 1) := by
  obtain ⟨n1, _⟩ := m.r.node
  have hr := (kdD_range (k := (nodeAt g i).kind)).2.2.2
  unfold nxtZ
  rcases m.b with ⟨rfl, rfl⟩ | ⟨rfl, rfl⟩ | ⟨rfl, rfl⟩
  · rw [if_pos rfl, if_pos rfl, n1, Bool.eq_iff_iff]
    simp only [beq_iff_eq]
    exact hr.symm
  · rfl
  · rfl
end Go.Proofs.YtnlpnbelkkgghaaDoor
/-
  Events that are handed in.
-/
namespace Go.Proofs.YtnlpnbelkkgghaaDoor
open Go.RowKit Go.Deep Go.Joins Go.ChangeShapes Go.WideShapes

/-- an event's ten cells -/
structure EvC (W : World) (b o : Nat) (x : Ev) (al : Option Addr) (cl : Nat) (ak : Option Addr) (ck : Nat) : Prop where
  c0 : W.cell? ⟨b, o + 0, none⟩ = some (.int .i64 x.kind)
  c1 : W.cell? ⟨b, o + 1, none⟩ = some (.int .i64 x.so)
  c2 : W.cell? ⟨b, o + 2, none⟩ = some (.int .i64 x.n)
  c3 : W.cell? ⟨b, o + 3, none⟩ = some (.string x.s)
  c4 : W.cell? ⟨b, o + 4, none⟩ = some (.int .i64 x.carry.kind)
  c5 : W.cell? ⟨b, o + 5, none⟩ = some (.int .i64 x.carry.so)
  c6 : W.cell? ⟨b, o + 6, none⟩ = some (.string x.carry.name)
  c7 : W.cell? ⟨b, o + 7, none⟩ = some (.slice al x.carry.labels.length cl)
  c8 : W.cell? ⟨b, o + 8, none⟩ = some (.slice ak x.carry.kids.length ck)
  c9 : W.cell? ⟨b, o + 9, none⟩ = some (.string x.label)
theorem EvC.keep {W W' : World} {B b o : Nat} {x : Ev} {al : Option Addr} {cl : Nat} {ak : Option Addr} {ck : Nat} (h : EvC W b o x al cl ak ck) (hb : Below B W W') (hl : b < B) : EvC W' b o x al cl ak ck :=
  ⟨(hb.cell (p := ⟨b, o + 0, none⟩) hl).trans h.c0, (hb.cell (p := ⟨b, o + 1, none⟩) hl).trans h.c1, (hb.cell (p := ⟨b, o + 2, none⟩) hl).trans h.c2, (hb.cell (p := ⟨b, o + 3, none⟩) hl).trans h.c3, (hb.cell (p := ⟨b, o + 4, none⟩) hl).trans h.c4, (hb.cell (p := ⟨b, o + 5, none⟩) hl).trans h.c5, (hb.cell (p := ⟨b, o + 6, none⟩) hl).trans h.c6, (hb.cell (p := ⟨b, o + 7, none⟩) hl).trans h.c7, (hb.cell (p := ⟨b, o + 8, none⟩) hl).trans h.c8, (hb.cell (p := ⟨b, o + 9, none⟩) hl).trans h.c9⟩
/-- a list of events -/
def EVS (W : World) (B : Nat) (evs : List Ev) (ae : Option Addr) : Prop := evs = [] ∨ ∃ b o, ae = some ⟨b, o, none⟩ ∧ b < B ∧ ∀ k (h : k < evs.length), ∃ al cl ak ck d, EvC W b (o + k * 10) evs[k] al cl ak ck ∧ evs[k].s.size ≤ 9223372036854775807 ∧ TyBd evs[k].carry cl ck ∧ LA W B evs[k].carry.labels al ∧ KT W B d evs[k].carry.kids ak
theorem EVS.keep {W W' : World} {B : Nat} {evs : List Ev} {ae : Option Addr} (hb : Below B W W') (h : EVS W B evs ae) : EVS W' B evs ae :=
  h.imp id fun ⟨b, o, e, hl, hc⟩ => ⟨b, o, e, hl, fun k hk => by
    obtain ⟨al, cl, ak, ck, d, h1, h2, h3, h4, h5⟩ := hc k hk
    exact ⟨al, cl, ak, ck, d, h1.keep hb hl, h2, h3, h4.keep hb, h5.keep hb⟩⟩
section
variable {H : Type} {enc : TypeId × Value → H} {W : World} {base : Nat} {spare : Nat → Bool} {held : Bool}
theorem cellsEv : Tryd.prog.cellsOf 63 = 10 := by kernel_rfl
set_option maxRecDepth 100000 in
theorem openEvent (fuel : Nat) (cs : List Value) (y : DataW H × List MemPlace) (h : DataW.trod enc Tryd.prog W base spare held fuel 63 cs = some y) :
    ∃ (x : Ev) (al : Option Addr) (cl : Nat) (ak : Option Addr) (ck d : Nat), cs = [.int .i64 x.kind, .int .i64 x.so, .int .i64 x.n, .string x.s, .int .i64 x.carry.kind, .int .i64 x.carry.so, .string x.carry.name, .slice al x.carry.labels.length cl, .slice ak x.carry.kids.length ck, .string x.label] ∧ x.s.size ≤ 9223372036854775807 ∧ TyBd x.carry cl ck ∧ LA W W.heap.size x.carry.labels al ∧ KT W W.heap.size d x.carry.kids ak := by
  obtain ⟨xs, n, rfl, hy, hlen, hxs, hf⟩ := DataW.trod_struct Tryd.underlying63 h
  have h0 : DataW.trod enc Tryd.prog W base spare held n 3 (List.take 1 (List.drop 0 cs)) = xs[0]? := hf 0 _ rfl
  have h1 : DataW.trod enc Tryd.prog W base spare held n 61 (List.take 3 (List.drop 1 cs)) = xs[1]? := hf 1 _ rfl
  have h2 : DataW.trod enc Tryd.prog W base spare held n 25 (List.take 5 (List.drop 4 cs)) = xs[2]? := hf 2 _ rfl
  have h3 : DataW.trod enc Tryd.prog W base spare held n 9 (List.take 1 (List.drop 9 cs)) = xs[3]? := hf 3 _ rfl
  clear hf hy
  rw [cellsEv] at hlen
  match cs, hlen with
  | [a0, a1, a2, a3, a4, a5, a6, a7, a8, a9], _ =>
  match xs, hxs with
  | [x0, x1, x2, x3], _ =>
  simp at h0 h1 h2 h3
  obtain ⟨kd, e0, _, _⟩ := DataW.trod_int Tryd.underlying3 h0
  obtain ⟨lb, e9, _, _⟩ := DataW.trod_string Tryd.underlying9 h3
  obtain ⟨ys, m, rfl, _, _, hys, hg⟩ := DataW.trod_struct Tryd.underlying61 h1
  have g0 : DataW.trod enc Tryd.prog W base spare held m 3 (List.take 1 (List.drop 0 [a1, a2, a3])) = ys[0]? := hg 0 _ rfl
  have g1 : DataW.trod enc Tryd.prog W base spare held m 2 (List.take 1 (List.drop 1 [a1, a2, a3])) = ys[1]? := hg 1 _ rfl
  have g2 : DataW.trod enc Tryd.prog W base spare held m 9 (List.take 1 (List.drop 2 [a1, a2, a3])) = ys[2]? := hg 2 _ rfl
  match ys, hys with
  | [y0, y1, y2], _ =>
  simp at g0 g1 g2
  obtain ⟨so, e1, _, _⟩ := DataW.trod_int Tryd.underlying3 g0
  obtain ⟨nn, e2, _, _⟩ := DataW.trod_int Tryd.underlying2 g1
  obtain ⟨s, e3, _, ws⟩ := DataW.trod_string Tryd.underlying9 g2
  obtain ⟨t, al, cl, ak, ck, et, b1, b2, b3⟩ := openCellsT _ _ _ h2
  simp at e0 e1 e2 e3 e9 et
  obtain ⟨e4, e5, e6, e7, e8⟩ := et
  subst e0 e1 e2 e3 e9 e4 e5 e6 e7 e8
  unfold maxLen at ws
  exact ⟨⟨kd, so, nn, s, t, lb⟩, al, cl, ak, ck, _, rfl, ws, b1, b2, b3⟩
set_option maxRecDepth 100000 in
/-- events that are handed in -/
theorem openEvents {r : Reach} {b0 : Nat} {v : Value} {d : DataW H} {p : List MemPlace} (hv : Value.okWide Tryd.prog W r b0 55 v) (h : DataW.Trod enc Tryd.prog W base spare held 55 v d p) :
    ∃ (evs : List Ev) (ae : Option Addr) (ce : Nat), v = .slice ae evs.length ce ∧ evs.length ≤ 9223372036854775807 ∧ EVS W W.heap.size evs ae := by
  obtain ⟨a0, len, cap, rfl⟩ := okWide_slice Tryd.underlying55 hv
  obtain ⟨fuel, hf⟩ := h
  rcases DataW.trod_slice Tryd.underlying55 hf with ⟨e5, _⟩ | ⟨a, len', cap', elems, rest, k, hk, e5, hx, hb, hlc, hcm, hle, hel, _, _⟩
  · simp [Value.cells] at e5
    obtain ⟨rfl, rfl, rfl⟩ := e5
    exact ⟨[], none, 0, rfl, by simp, .inl rfl⟩
  · simp [Value.cells] at e5
    obtain ⟨rfl, rfl, rfl⟩ := e5
    rw [cellsEv] at hel
    unfold maxLen at hcm
    have hall : ∀ i, i < len → ∃ p : Ev × Option Addr × Nat × Option Addr × Nat × Nat, W.cells? base (a.add (i * 10)) 10 = some [.int .i64 p.1.kind, .int .i64 p.1.so, .int .i64 p.1.n, .string p.1.s, .int .i64 p.1.carry.kind, .int .i64 p.1.carry.so, .string p.1.carry.name, .slice p.2.1 p.1.carry.labels.length p.2.2.1, .slice p.2.2.2.1 p.1.carry.kids.length p.2.2.2.2.1, .string p.1.label] ∧ p.1.s.size ≤ 9223372036854775807 ∧ TyBd p.1.carry p.2.2.1 p.2.2.2.2.1 ∧ LA W W.heap.size p.1.carry.labels p.2.1 ∧ KT W W.heap.size p.2.2.2.2.2 p.1.carry.kids p.2.2.2.1 := by
      intro i hi
      have q := hel i hi
      rw [List.getElem?_eq_getElem (by omega)] at q
      obtain ⟨cs', q1, q2⟩ := Option.bind_eq_some_iff.1 q
      obtain ⟨x, al, cl, ak, ck, d, rfl, h1, h2, h3, h4⟩ := openEvent k cs' _ q2
      exact ⟨(x, al, cl, ak, ck, d), q1, h1, h2, h3, h4⟩
    haveI : Inhabited (Ev × Option Addr × Nat × Option Addr × Nat × Nat) := ⟨(⟨0, 0, 0, ⟨#[]⟩, ⟨0, 0, ⟨#[]⟩, [], []⟩, ⟨#[]⟩⟩, none, 0, none, 0, 0)⟩
    obtain ⟨f, hf⟩ := choose_lt hall
    refine ⟨(List.range len).map fun i => (f i).1, some a, cap, by simp, by simp; omega, ?_⟩
    by_cases hl0 : len = 0
    · exact .inl (by simp [hl0])
    · obtain ⟨q1, _⟩ := hf 0 (by omega)
      have q2 := (World.cells?_some q1).2.2 0 (by omega)
      obtain ⟨b, o, spot⟩ := a
      have hsp : spot = none := by simpa [Addr.add] using World.cell?_spot q2
      subst hsp
      have hcell : ∀ i j, i < len → j < 10 → W.cell? ⟨b, o + i * 10 + j, none⟩ = [Value.int .i64 (f i).1.kind, .int .i64 (f i).1.so, .int .i64 (f i).1.n, .string (f i).1.s, .int .i64 (f i).1.carry.kind, .int .i64 (f i).1.carry.so, .string (f i).1.carry.name, .slice (f i).2.1 (f i).1.carry.labels.length (f i).2.2.1, .slice (f i).2.2.2.1 (f i).1.carry.kids.length (f i).2.2.2.2.1, .string (f i).1.label][j]? := by
        intro i j hi hj
        obtain ⟨q1, _⟩ := hf i hi
        have := (World.cells?_some q1).2.2 j hj
        rw [add_add, Go.WideShapes.add_plain] at this
        rw [Nat.add_assoc]; exact this
      refine .inr ⟨b, o, rfl, lt_of_cell ((hcell 0 0 (by omega) (by omega)).trans rfl), fun i hi => ?_⟩
      have hi' : i < len := by simpa using hi
      have e : ((List.range len).map fun i => (f i).1)[i] = (f i).1 := by simp
      simp only [e]
      obtain ⟨_, h1, h2, h3, h4⟩ := hf i hi'
      exact ⟨(f i).2.1, (f i).2.2.1, (f i).2.2.2.1, (f i).2.2.2.2.1, (f i).2.2.2.2.2, ⟨(hcell i 0 hi' (by omega)).trans rfl, (hcell i 1 hi' (by omega)).trans rfl, (hcell i 2 hi' (by omega)).trans rfl, (hcell i 3 hi' (by omega)).trans rfl, (hcell i 4 hi' (by omega)).trans rfl, (hcell i 5 hi' (by omega)).trans rfl, (hcell i 6 hi' (by omega)).trans rfl, (hcell i 7 hi' (by omega)).trans rfl, (hcell i 8 hi' (by omega)).trans rfl, (hcell i 9 hi' (by omega)).trans rfl⟩, h1, h2, h3, h4⟩
end
end Go.Proofs.YtnlpnbelkkgghaaDoor
