/-
  Plain mathematics: what graph.Back makes of a graph: a type that does what the node does.
-/
import Derived.Test.YtnedgkcejlhnbaaDoorVc
import Derived.Test.YtnedgkcejlhnbaaDoorId
namespace Go.Proofs.YtnedgkcejlhnbaaDoor

/-- the name of a node -/
def nmN (i : Nat) : ByteArray := if i < 26 then ⟨#[UInt8.ofNat (97 + i)]⟩ else ⟨#[UInt8.ofNat (97 + i / 26 - 1), UInt8.ofNat (97 + i % 26)]⟩
def upB (f : Nat → Bool) (i : Nat) (b : Bool) : Nat → Bool := fun j => if j = i then b else f j
theorem upB_same (f : Nat → Bool) (i : Nat) (b : Bool) : upB f i b i = b := if_pos rfl
theorem upB_other (f : Nat → Bool) (i : Nat) (b : Bool) {j : Nat} (h : j ≠ i) : upB f i b j = f j := if_neg h
/-- which nodes it has come back to, and how many parts are made -/
abbrev SB := (Nat → Bool) × Nat
def stB (F : Nat → SB → Ty × SB) (a : List Ty × SB) (j : Nat) : List Ty × SB := (a.1 ++ [(F j a.2).1], (F j a.2).2)
def bkL (F : Nat → SB → Ty × SB) (tos : List Nat) (a : List Ty × SB) : List Ty × SB := tos.foldl (stB F) a
def zT : Ty := ⟨0, 0, ⟨#[]⟩, [], []⟩
def ndT (n : Nd) (ks : List Ty) : Ty := ⟨n.kind, n.so, ⟨#[]⟩, n.labs, ks⟩
def bkT (g : List Nd) : Nat → (Nat → Bool) → Nat → SB → Ty × SB
  | 0, _, _, st => (zT, st)
  | f + 1, ps, i, st =>
    if 60 < st.2 + 1 then (zT, (st.1, st.2 + 1))
    else if ps i = true then (varT (nmN i), (upB st.1 i true, st.2 + 1))
    else if (bkL (bkT g f (upB ps i true)) (nodeAt g i).to ([], (upB st.1 i false, st.2 + 1))).2.1 i = true then
      (recT (nmN i) (ndT (nodeAt g i) (bkL (bkT g f (upB ps i true)) (nodeAt g i).to ([], (upB st.1 i false, st.2 + 1))).1), ((bkL (bkT g f (upB ps i true)) (nodeAt g i).to ([], (upB st.1 i false, st.2 + 1))).2.1, (bkL (bkT g f (upB ps i true)) (nodeAt g i).to ([], (upB st.1 i false, st.2 + 1))).2.2 + 1))
    else (ndT (nodeAt g i) (bkL (bkT g f (upB ps i true)) (nodeAt g i).to ([], (upB st.1 i false, st.2 + 1))).1, (bkL (bkT g f (upB ps i true)) (nodeAt g i).to ([], (upB st.1 i false, st.2 + 1))).2)
theorem bkL_cons (F : Nat → SB → Ty × SB) (j : Nat) (tos : List Nat) (a : List Ty × SB) : bkL F (j :: tos) a = bkL F tos (stB F a j) := rfl
theorem bkL_snoc (F : Nat → SB → Ty × SB) (j : Nat) (tos : List Nat) (a : List Ty × SB) : bkL F (tos ++ [j]) a = stB F (bkL F tos a) j := by
  unfold bkL; rw [List.foldl_append]; rfl
theorem bkL_mono {F : Nat → SB → Ty × SB} (h : ∀ j st, st.2 ≤ (F j st).2.2) : ∀ (tos : List Nat) (a : List Ty × SB), a.2.2 ≤ (bkL F tos a).2.2
  | [], _ => Nat.le_refl _
  | j :: tos, a => by
    rw [bkL_cons]
    exact Nat.le_trans (h j a.2) (bkL_mono h tos (stB F a j))
theorem bk_mono (g : List Nd) : ∀ (f : Nat) (ps : Nat → Bool) (i : Nat) (st : SB), st.2 ≤ (bkT g f ps i st).2.2
  | 0, _, _, _ => Nat.le_refl _
  | f + 1, ps, i, st => by
    have hL := bkL_mono (bk_mono g f (upB ps i true)) (nodeAt g i).to ([], (upB st.1 i false, st.2 + 1))
    have hL' : st.2 + 1 ≤ (bkL (bkT g f (upB ps i true)) (nodeAt g i).to ([], (upB st.1 i false, st.2 + 1))).2.2 := hL
    rw [bkT]
    split
    · exact Nat.le_succ _
    · split
      · exact Nat.le_succ _
      · split
        · exact Nat.le_trans (Nat.le_succ _) (Nat.le_trans hL' (Nat.le_succ _))
        · exact Nat.le_trans (Nat.le_succ _) hL'
/-- what is made of a node -/
structure BK (g : List Nd) (ps : Nat → Bool) (i : Nat) (st : SB) (T : Ty) (st' : SB) : Prop where
  sz : st.2 + sizeT T = st'.2
  gd : gdT T
  id : ps i = false → idT T = false
  mt : ∀ j, ps j = true → st.1 j = true → st'.1 j = true
  fr : ∀ x, frT x T = true → ∃ j, ps j = true ∧ st'.1 j = true ∧ x = nmN j
  dn : ∀ r : ByteArray → Dn, (∀ j, ps j = true → r (nmN j) = fun k => gT g k j) → den T r = fun k => gT g k i
/-- what is made of all that it leads to -/
structure BKs (g : List Nd) (ps : Nat → Bool) (tos : List Nat) (st : SB) (ks : List Ty) (st' : SB) : Prop where
  ln : ks.length = tos.length
  sz : st.2 + (ks.map sizeT).sum = st'.2
  gd : ∀ q ∈ ks, gdT q
  mt : ∀ j, ps j = true → st.1 j = true → st'.1 j = true
  fr : ∀ q ∈ ks, ∀ x, frT x q = true → ∃ j, ps j = true ∧ st'.1 j = true ∧ x = nmN j
  dn : ∀ r : ByteArray → Dn, (∀ j, ps j = true → r (nmN j) = fun k => gT g k j) → ks.map (fun q => den q r) = tos.map fun j k => gT g k j
theorem bkL_ok {g : List Nd} {ps : Nat → Bool} {F : Nat → SB → Ty × SB} {f : Nat} (hm : ∀ j st, st.2 ≤ (F j st).2.2) (hF : ∀ j st, 61 ≤ f + st.2 → j < g.length → (F j st).2.2 ≤ 60 → BK g ps j st (F j st).1 (F j st).2) :
    ∀ (tos : List Nat) (a : List Ty × SB), (∀ j ∈ tos, j < g.length) → 61 ≤ f + a.2.2 → (bkL F tos a).2.2 ≤ 60 → ∃ ks, (bkL F tos a).1 = a.1 ++ ks ∧ BKs g ps tos a.2 ks (bkL F tos a).2
  | [], a, _, _, _ => ⟨[], (List.append_nil _).symm, rfl, rfl, (fun q hq => by cases hq), fun _ _ h => h, (fun q hq => by cases hq), fun _ _ => rfl⟩
  | j :: tos, a, hj, hf, h60 => by
    rw [bkL_cons] at h60 ⊢
    have h1 : (F j a.2).2.2 ≤ (bkL F tos (stB F a j)).2.2 := bkL_mono hm tos (stB F a j)
    have K := hF j a.2 hf (hj j (.head _)) (by omega)
    have hf2 : 61 ≤ f + (stB F a j).2.2 := by have := hm j a.2; show 61 ≤ f + (F j a.2).2.2; omega
    obtain ⟨ks, e, L⟩ := bkL_ok hm hF tos (stB F a j) (fun q hq => hj q (.tail _ hq)) hf2 h60
    refine ⟨(F j a.2).1 :: ks, ?_, ?_⟩
    · rw [e]
      show (a.1 ++ [(F j a.2).1]) ++ ks = _
      rw [List.append_assoc]
      rfl
    · refine ⟨by simp [L.ln], ?_, ?_, fun q hq hs => L.mt q hq (K.mt q hq hs), ?_, fun r hr => ?_⟩
      · have s1 := K.sz
        have s2 : (F j a.2).2.2 + (ks.map sizeT).sum = (bkL F tos (stB F a j)).2.2 := L.sz
        rw [List.map_cons, List.sum_cons]
        omega
      · intro q hq
        rcases List.mem_cons.1 hq with rfl | hq
        · exact K.gd
        · exact L.gd q hq
      · intro q hq x hx
        rcases List.mem_cons.1 hq with rfl | hq
        · obtain ⟨j', p1, p2, p3⟩ := K.fr x hx
          exact ⟨j', p1, L.mt j' p1 p2, p3⟩
        · exact L.fr q hq x hx
      · rw [List.map_cons, List.map_cons, K.dn r hr, L.dn r hr]
theorem rec_part {x : ByteArray} (h : isVr x.data.toList = true) (b : Ty) : partT (recT x b) = true := by unfold partT recT; simp [h]
theorem okN_kind {n : Nd} (h : okN n) : n.kind ≠ 9 ∧ n.kind ≠ 8 := by
  have := okN_cases h
  omega
theorem bk_ok {g : List Nd} (hg : GN g) (hinj : ∀ i j, i < g.length → j < g.length → nmN i = nmN j → i = j) (hvr : ∀ i, i < g.length → isVr (nmN i).data.toList = true) :
    ∀ (f : Nat) (ps : Nat → Bool) (i : Nat) (st : SB), 61 ≤ f + st.2 → i < g.length → (∀ j, ps j = true → j < g.length) → (bkT g f ps i st).2.2 ≤ 60 → BK g ps i st (bkT g f ps i st).1 (bkT g f ps i st).2
  | 0, _, _, st, hf, _, _, h60 => by have : st.2 ≤ 60 := h60; omega
  | f + 1, ps, i, st, hf, hi, hps, h60 => by
    rw [bkT] at h60 ⊢
    by_cases h1 : 60 < st.2 + 1
    · rw [if_pos h1] at h60
      have : st.2 + 1 ≤ 60 := h60
      omega
    rw [if_neg h1] at h60 ⊢
    by_cases h2 : ps i = true
    · rw [if_pos h2]
      refine ⟨?_, var_gd (hvr i hi), (fun q => by rw [h2] at q; cases q), fun j hj hs => ?_, fun x hx => ?_, fun r hr => ?_⟩
      · rw [sizeT_eq]; rfl
      · show upB st.1 i true j = true
        by_cases e : j = i
        · rw [e, upB_same]
        · rw [upB_other _ _ _ e]; exact hs
      · rw [frT_var x _ rfl] at hx
        exact ⟨i, h2, upB_same _ _ _, (of_decide_eq_true hx).symm⟩
      · rw [den_var _ _ rfl]
        exact hr i h2
    rw [if_neg h2] at h60 ⊢
    have h2f : ps i = false := by cases h : ps i <;> simp_all
    have hps' : ∀ j, upB ps i true j = true → j < g.length := fun j hj => by
      by_cases e : j = i
      · rw [e]; exact hi
      · rw [upB_other _ _ _ e] at hj; exact hps j hj
    have hm := bk_mono g f (upB ps i true)
    have hto : ∀ j ∈ (nodeAt g i).to, j < g.length := fun j hj => by
      obtain ⟨x, hx, rfl⟩ := List.mem_iff_getElem.1 hj
      have := hg.to_ (i := i) x hx
      unfold toAt at this
      rw [List.getElem?_eq_getElem hx] at this
      exact this
    have hr60 : (bkL (bkT g f (upB ps i true)) (nodeAt g i).to ([], (upB st.1 i false, st.2 + 1))).2.2 ≤ 60 := by
      split at h60
      · have h60 : _ + 1 ≤ 60 := h60
        omega
      · exact h60
    obtain ⟨ks, ek, L⟩ := bkL_ok (g := g) (ps := upB ps i true) (f := f) hm (fun j st' hf' hj h => bk_ok hg hinj hvr f (upB ps i true) j st' hf' hj hps' h) (nodeAt g i).to ([], (upB st.1 i false, st.2 + 1)) hto (by show 61 ≤ f + (st.2 + 1); omega) hr60
    rw [List.nil_append] at ek
    rw [ek]
    generalize bkL (bkT g f (upB ps i true)) (nodeAt g i).to ([], (upB st.1 i false, st.2 + 1)) = R at *
    have hok := hg.at_ hi
    obtain ⟨k9, k8⟩ := okN_kind hok
    have hpt : partT (ndT (nodeAt g i) ks) = true := part_kids (t := ⟨(nodeAt g i).kind, (nodeAt g i).so, ⟨#[]⟩, (nodeAt g i).labs, (nodeAt g i).to.map fun _ => endT⟩) ks (by rw [L.ln]; simp) hok
    have hgd : gdT (ndT (nodeAt g i) ks) := (gdT_eq _).2 ⟨hpt, fun q => absurd q k8, L.gd⟩
    have hid : idT (ndT (nodeAt g i) ks) = false := idT_node _ k9 k8
    have hsz : sizeT (ndT (nodeAt g i) ks) = 1 + (ks.map sizeT).sum := sizeT_eq _
    have hLs : st.2 + 1 + (ks.map sizeT).sum = R.2.2 := L.sz
    have hfr : ∀ x, frT x (ndT (nodeAt g i) ks) = true → ∃ j, upB ps i true j = true ∧ R.2.1 j = true ∧ x = nmN j := fun x hx => by
      rw [frT_else x _ k9 (fun h => k8 h.1)] at hx
      obtain ⟨q, hq, hx⟩ := List.any_eq_true.1 hx
      exact L.fr q hq x hx
    have hmt : ∀ j, ps j = true → st.1 j = true → R.2.1 j = true := fun j hj hs => by
      have e : j ≠ i := fun e => by rw [e, h2f] at hj; cases hj
      exact L.mt j (by rw [upB_other _ _ _ e]; exact hj) (by show upB st.1 i false j = true; rw [upB_other _ _ _ e]; exact hs)
    have hdn : ∀ r : ByteArray → Dn, (∀ j, ps j = true → r (nmN j) = fun k => gT g k j) → den (ndT (nodeAt g i) ks) (upD r (nmN i) fun k => gT g k i) = fun k => gT g k i := fun r hr => by
      have hr' : ∀ j, upB ps i true j = true → upD r (nmN i) (fun k => gT g k i) (nmN j) = fun k => gT g k j := fun j hj => by
        unfold upD
        by_cases e : j = i
        · rw [e, if_pos rfl]
        · rw [if_neg (fun q => e (hinj j i (hps' j hj) hi q))]
          rw [upB_other _ _ _ e] at hj
          exact hr j hj
      rw [den_node _ _ k9 k8]
      show stD (nodeAt g i).kind (nodeAt g i).so (nodeAt g i).labs (ks.map fun q => den q (upD r (nmN i) fun k => gT g k i)) = _
      rw [L.dn _ hr']
      funext k
      cases k with
      | zero => rfl
      | succ k =>
        show (⟨_, _, _, ((nodeAt g i).to.map fun j k => gT g k j).map fun f => f k⟩ : Tr) = _
        rw [List.map_map]
        rfl
    by_cases h3 : R.2.1 i = true
    · rw [if_pos h3]
      have hrid : idT (recT (nmN i) (ndT (nodeAt g i) ks)) = false := by rw [idT_rec _ rfl _ rfl]; exact hid
      have hrg : gdT (recT (nmN i) (ndT (nodeAt g i) ks)) := (gdT_eq _).2 ⟨rec_part (hvr i hi) _, fun _ => hrid, fun q hq => by rw [List.mem_singleton.1 hq]; exact hgd⟩
      refine ⟨?_, hrg, fun _ => hrid, hmt, fun x hx => ?_, fun r hr => ?_⟩
      · rw [sizeT_eq]
        show st.2 + (1 + (sizeT (ndT (nodeAt g i) ks) + 0)) = R.2.2 + 1
        omega
      · by_cases e : nmN i = x
        · rw [frT_rec x _ ⟨rfl, e⟩] at hx; cases hx
        · rw [frT_else x _ (show (8 : Int) ≠ 9 by decide) (fun h => e h.2)] at hx
          obtain ⟨q, hq, hx⟩ := List.any_eq_true.1 hx
          rw [List.mem_singleton.1 hq] at hx
          obtain ⟨j, p1, p2, p3⟩ := hfr x hx
          have hji : j ≠ i := fun q => e (by rw [p3, q])
          rw [upB_other _ _ _ hji] at p1
          exact ⟨j, p1, p2, p3⟩
      · exact (den_one hrg rfl rfl r (hdn r hr).symm).symm
    · rw [if_neg h3]
      have hno : ∀ j, upB ps i true j = true → R.2.1 j = true → j ≠ i := fun j _ p2 q => h3 (q ▸ p2)
      refine ⟨by rw [hsz]; show st.2 + (1 + _) = R.2.2; omega, hgd, fun _ => hid, hmt, fun x hx => ?_, fun r hr => ?_⟩
      · obtain ⟨j, p1, p2, p3⟩ := hfr x hx
        have hji := hno j p1 p2
        rw [upB_other _ _ _ hji] at p1
        exact ⟨j, p1, p2, p3⟩
      · have hf0 : frT (nmN i) (ndT (nodeAt g i) ks) = false := by
          cases hq : frT (nmN i) (ndT (nodeAt g i) ks) with
          | false => rfl
          | true =>
            obtain ⟨j, p1, p2, p3⟩ := hfr _ hq
            exact absurd (hinj i j hi (hps' j p1) p3).symm (hno j p1 p2)
        rw [← fr_den (nmN i) _ (gdT_wf _ hgd) hf0 r fun k => gT g k i]
        exact hdn r hr
end Go.Proofs.YtnedgkcejlhnbaaDoor
