/-
  Plain mathematics: the search of the first place at which one graph fails to be below another one, and what it tells.
-/
import Derived.Test.YtpamhimmdoimoaaGreatDoorPk
import Derived.Test.YtpamhimmdoimoaaGreatDoorZb
namespace Go.Proofs.YtpamhimmdoimoaaGreatDoor
end Go.Proofs.YtpamhimmdoimoaaGreatDoor
namespace Go.Proofs.YtpamhimmdoimoaaGreatDoor
def kdD (k : Int) : Int := if k = 2 then 3 else if k = 3 then 2 else if k = 4 then 5 else if k = 5 then 4 else if k = 6 then 7 else if k = 7 then 6 else k
def tuL (n : Nd) (N : Nat) : List Nat := if n.kind = 4 ∨ n.kind = 5 then (match n.to with | [] => [] | a :: r => (a + N) :: r) else n.to
def keL (n : Nd) (N : Nat) : List Nat := n.to.map fun t => t + N
def othT (N : Nat) (n : Nd) : Nd := ⟨kdD n.kind, n.so, n.labs, tuL n N⟩
def othK (N : Nat) (n : Nd) : Nd := ⟨n.kind, n.so, n.labs, keL n N⟩
def othG (g : List Nd) : List Nd := g.map (othT g.length) ++ g.map (othK g.length)
theorem okN_mk {n : Nd} (h : (n.kind = 1 ∧ n.so = 0 ∧ n.labs = [] ∧ n.to.length = 0) ∨ ((n.kind = 2 ∨ n.kind = 3) ∧ (n.so = 1 ∨ n.so = 2 ∨ n.so = 3) ∧ n.labs = [] ∧ n.to.length = 1) ∨ ((n.kind = 4 ∨ n.kind = 5) ∧ n.so = 0 ∧ n.labs = [] ∧ n.to.length = 2) ∨ ((n.kind = 6 ∨ n.kind = 7) ∧ n.so = 0 ∧ labsOK n.labs = true ∧ n.to.length = n.labs.length)) : okN n := by
 unfold okN partT;have he : (⟨#[]⟩ : ByteArray).toList.isEmpty = true := by rw [ByteArray.toList_eq]; rfl
 simp only [List.length_map, he];rcases h with ⟨h1, h2, h3, h4⟩ | ⟨h1, h2, h3, h4⟩ | ⟨h1, h2, h3, h4⟩ | ⟨h1, h2, h3, h4⟩
 ·rw [if_pos h1]; simp [h2, h3, h4]
 ·rw [if_neg (by omega), if_pos h1]; simp [h2, h3, h4]
 ·rw [if_neg (by omega), if_neg (by omega), if_pos h1]; simp [h2, h3, h4]
 ·rw [if_neg (by omega), if_neg (by omega), if_neg (by omega), if_pos h1]; simp [h2, h3, h4]
end Go.Proofs.YtpamhimmdoimoaaGreatDoor
namespace Go.Proofs.YtpamhimmdoimoaaGreatDoor
theorem leB_yes {a b : ByteArray} (h : ltB b a) : leB a b = false := by
 unfold leB;rw [Bool.or_eq_false_iff, bytesLess_eq];unfold ltB at h;constructor
 ·rw [decide_eq_false_iff_not]
  exact fun q => absurd (List.lt_trans h q) (List.lt_irrefl _)
 ·rw [beq_eq_false_iff_ne]
  intro q;rw [q] at h;exact List.lt_irrefl _ h
theorem labsOK_mk {ls : List ByteArray} (h1 : 1 ≤ ls.length) (h6 : ls.length ≤ 6) (hn : ∀ l ∈ ls, isNm l.data.toList = true) (hr : rises ls) : labsOK ls = true := by
 refine labs_yes ls h1 h6 fun j hj => ?_
 unfold labAt;rw [getD_at ls j hj, hn _ (List.getElem_mem hj)];by_cases h0 : 0 < j
 ·rw [getD_at ls (j - 1) (by omega), leB_yes]
  ·simp
  ·unfold rises at hr
   rw [List.pairwise_iff_getElem] at hr;exact hr (j - 1) j (by omega) hj (by omega)
 ·simp [h0]
theorem labsOK_nm {ls : List ByteArray} (h : labsOK ls = true) : ∀ l ∈ ls, isNm l.data.toList = true := by
 intro l hl;unfold labsOK at h;rw [Bool.and_eq_true, List.all_eq_true] at h;obtain ⟨i, hi, rfl⟩ := List.mem_iff_getElem.1 hl;have := h.2 i (List.mem_range.2 hi);unfold labAt at this;rw [Bool.and_eq_true, getD_at ls i hi] at this;exact this.1
theorem KD.nm {g h : List Nd} (hg : GN g) (hh : GN h) {p : Pz} (o : okZ g h p) {d : Dr} (K : KD g h p d) (hk : d.kind = 6 ∨ d.kind = 7) : ∀ l ∈ d.labs, isNm l.data.toList = true := by
 intro l hl;have side : ∀ σ, sI p σ ≠ -1 → l ∈ (sN g h p σ).labs → isNm l.data.toList = true := fun σ hσ hm => by
  have hkk := (K.kd σ hσ).1;rcases okN_cases (o.nd hg hh hσ) with ⟨q, _⟩ | ⟨q, _⟩ | ⟨q, _⟩ | ⟨_, _, q, _⟩
  ·omega
  ·omega
  ·omega
  ·exact labsOK_nm q l hm
 by_cases hw : wideB d.kind p.2.2 = true
 ·have hwd : wrd d.kind d.labs = d.labs := by unfold wrd; rw [if_neg (by omega), if_neg (by omega)]
  have ln := K.ln;rw [hwd] at ln;obtain ⟨i, hi, rfl⟩ := List.mem_iff_getElem.1 hl;obtain ⟨oq, hq⟩ := K.st d.labs[i] (d.nxt[i]'(by omega)) (by
   unfold dst;rw [hwd, List.mem_iff_getElem];exact ⟨i, by rw [List.length_zip]; omega, by rw [List.getElem_zip]⟩)
  obtain ⟨σ, hσ⟩ := oq.2;obtain ⟨hp, hn⟩ := (hq σ).1 hσ;exact side σ hp ((nst_lab (by rw [← (K.kd σ hp).1]; exact hk)).1 ⟨_, _, hn⟩)
 ·obtain ⟨σ, hσ⟩ := o.2
  exact side σ hσ (K.nx (by simpa using hw) l hl σ hσ)
theorem filter_add {α : Type} (p : α → Bool) : ∀ l : List α, (l.filter p).length + (l.filter fun q => !p q).length = l.length
 | [] => rfl
 | a :: l => by
  have ih := filter_add p l;cases h : p a
  ·rw [List.filter_cons_of_neg (by simp [h]), List.filter_cons_of_pos (by simp [h])]
   simp only [List.length_cons];omega
  ·rw [List.filter_cons_of_pos h, List.filter_cons_of_neg (by simp [h])]
   simp only [List.length_cons];omega
theorem left_ok {g h : List Nd} (hg : GN g) (hh : GN h) {p : Pz} (o : okZ g h p) {d : Dr} (K : KD g h p d) (al : Pz → Bool) (hv : ((d.nxt.filter fun q => !al q).length : Int) ≤ d.spare) (tos : List Nat) (ht : tos.length = (d.nxt.filter al).length) : okN ⟨d.kind, d.so, lfL al d, tos⟩ := by
 obtain ⟨σ, hσ⟩ := o.2;obtain ⟨kk, ks⟩ := K.kd σ hσ;have on := o.nd hg hh hσ;have hcnt := filter_add al d.nxt;have hfl : ¬ (d.kind = 6 ∨ d.kind = 7) → (d.nxt.filter al).length = d.nxt.length ∧ d.labs = [] := fun hk => by
  have := K.s0 hk;have hw : wideB d.kind p.2.2 = false := by
   rw [Bool.eq_false_iff];exact fun q => hk (wide_kind q)
  refine ⟨by omega, ?_⟩
  rw [List.eq_nil_iff_forall_not_mem];intro l hl;have hm := K.nx hw l hl σ hσ;rcases okN_cases on with ⟨_, _, q, _⟩ | ⟨_, _, q, _⟩ | ⟨_, _, q, _⟩ | ⟨q, _⟩
  ·rw [q] at hm; cases hm
  ·rw [q] at hm; cases hm
  ·rw [q] at hm; cases hm
  ·rw [← kk] at q; exact hk q
 have hll : d.labs = [] → lfL al d = [] := fun e => by unfold lfL; rw [e]; rfl
 have ln := K.ln;apply okN_mk
 simp only;rcases okN_cases on with ⟨q1, q2, _, _⟩ | ⟨q1, q2, _, _⟩ | ⟨q1, q2, _, _⟩ | ⟨q1, q2, _, _⟩
 ·obtain ⟨f1, f2⟩ := hfl (by omega)
  left
  refine ⟨by omega, by omega, hll f2, ?_⟩
  unfold wrd at ln;rw [if_neg (by omega), if_neg (by omega), f2] at ln
  simp only [List.length_nil] at ln;omega
 ·obtain ⟨f1, f2⟩ := hfl (by omega)
  right; left
  refine ⟨by omega, by omega, hll f2, ?_⟩
  unfold wrd at ln;rw [if_pos (by omega)] at ln
  simp only [List.length_cons, List.length_nil] at ln;omega
 ·obtain ⟨f1, f2⟩ := hfl (by omega)
  right; right; left
  refine ⟨by omega, by omega, hll f2, ?_⟩
  unfold wrd at ln;rw [if_neg (by omega), if_pos (by omega)] at ln
  simp only [List.length_cons, List.length_nil] at ln;omega
 ·right; right; right
  have hk : d.kind = 6 ∨ d.kind = 7 := by omega
  unfold wrd at ln;rw [if_neg (by omega), if_neg (by omega)] at ln
  have e2 : (lfL al d).length = (d.nxt.filter al).length := by
   have := congrArg List.length (filter_zip2 al d.labs d.nxt ln);rw [List.length_map] at this;unfold lfL;rw [List.length_map];exact this
  have sub : (lfL al d).Sublist d.labs := by
   unfold lfL;have h1 : ((d.labs.zip d.nxt).filter fun e => al e.2).Sublist (d.labs.zip d.nxt) := List.filter_sublist
   have h2 := h1.map (·.1)
   have h3 : (d.labs.zip d.nxt).map (·.1) = d.labs := List.map_fst_zip (by omega)
   rw [h3] at h2;exact h2
  have hsl := K.sl hk;have h6 := K.l6;have := sub.length_le;refine ⟨hk, by omega, labsOK_mk (by omega) (by omega) (fun l hl => K.nm hg hh o hk l (sub.subset hl)) (K.rs.sublist sub), by omega⟩
structure BND (g h : List Nd) (p0 : Pz) (ps : List Pz) (al : Pz → Bool) : Prop where
 p0 : p0 ∈ ps
 ok : ∀ p ∈ ps, okZ g h p
 sh : ∀ p ∈ ps, ∀ q ∈ (drP g h p).nxt, q ∈ ps
 lv : ∀ p ∈ ps, al p = true → 0 ≤ (drP g h p).spare ∧ (((drP g h p).nxt.filter fun q => !al q).length : Int) ≤ (drP g h p).spare
 dd : ∀ S : Pz → Bool, (∀ p ∈ ps, S p = false → 0 ≤ (drP g h p).spare ∧ (((drP g h p).nxt.filter S).length : Int) ≤ (drP g h p).spare) → ∀ p ∈ ps, al p = false → S p = true
structure RCH (g h : List Nd) (p0 : Pz) (ps : List Pz) (al : Pz → Bool) (Q : List Pz) : Prop where
 hd : Q[0]? = some p0
 nd : Q.Nodup
 inn : ∀ p ∈ Q, p ∈ ps
 lv : ∀ p ∈ Q, al p = true
 sh : ∀ p ∈ Q, ∀ q ∈ (drP g h p).nxt, al q = true → q ∈ Q
 mn : ∀ S : Pz → Bool, S p0 = true → (∀ p ∈ Q, S p = true → ∀ q ∈ (drP g h p).nxt, al q = true → S q = true) → ∀ p ∈ Q, S p = true
def lfN (g h : List Nd) (al : Pz → Bool) (Q : List Pz) (p : Pz) : Nd := ⟨(drP g h p).kind, (drP g h p).so, lfL al (drP g h p), ((drP g h p).nxt.filter al).map fun q => Q.idxOf q⟩
def lfG (g h : List Nd) (al : Pz → Bool) (Q : List Pz) : List Nd := Q.map (lfN g h al Q)
def plQ (Q : List Pz) (p0 : Pz) (x : Nat) : Pz := (Q[x]?).getD p0
theorem plQ_idx {Q : List Pz} {p0 q : Pz} (h : q ∈ Q) : plQ Q p0 (Q.idxOf q) = q := by
 have h1 := List.idxOf_lt_length_of_mem h;unfold plQ;rw [List.getElem?_eq_getElem h1, List.getElem_idxOf h1];rfl
theorem lf_at (g h : List Nd) (al : Pz → Bool) (Q : List Pz) (p0 : Pz) {x : Nat} (hx : x < Q.length) : nodeAt (lfG g h al Q) x = lfN g h al Q (plQ Q p0 x) ∧ plQ Q p0 x ∈ Q := by
 have e : plQ Q p0 x = Q[x] := by unfold plQ; rw [List.getElem?_eq_getElem hx]; rfl
 rw [e];refine ⟨?_, List.getElem_mem hx⟩;unfold lfG;rw [nodeAt_lt _ _ (by simpa using hx), List.getElem_map]
theorem gp_of {g h : List Nd} (hg : GN g) (hh : GN h) {p0 : Pz} {ps : List Pz} {al : Pz → Bool} {Q : List Pz} (B : BND g h p0 ps al) (R : RCH g h p0 ps al Q) (hl : Q.length ≤ 200) : GP g h al (lfG g h al Q) (plQ Q p0) ∧ plQ Q p0 0 = p0 := by
 have hlen : (lfG g h al Q).length = Q.length := by unfold lfG; rw [List.length_map]
 have h0 : plQ Q p0 0 = p0 := by unfold plQ; rw [R.hd]; rfl
 have K : ∀ p ∈ Q, KD g h p (drP g h p) := fun p hp => kd_any hg hh (B.ok p (R.inn p hp)) (B.lv p (R.inn p hp) (R.lv p hp)).1
 have hp0 : 0 < Q.length := by
  rcases Nat.eq_zero_or_pos Q.length with q | q
  ·have := R.hd; rw [List.getElem?_eq_none (by omega)] at this; cases this
  ·exact q
 refine ⟨⟨⟨by omega, by omega, fun n hn => ?_, fun n hn t ht => ?_⟩, fun x hx => ?_, fun x hx => ?_, fun x hx => ?_, fun x hx => ?_, fun x hx => ?_, fun x hx => ?_⟩, h0⟩
 ·obtain ⟨p, hp, rfl⟩ := List.mem_map.1 hn
  exact left_ok hg hh (B.ok p (R.inn p hp)) (K p hp) al (B.lv p (R.inn p hp) (R.lv p hp)).2 _ (by rw [List.length_map])
 ·obtain ⟨p, hp, rfl⟩ := List.mem_map.1 hn
  obtain ⟨q, hq, rfl⟩ := List.mem_map.1 ht;have hq' := List.mem_filter.1 hq;rw [hlen];exact List.idxOf_lt_length_of_mem (R.sh p hp q hq'.1 hq'.2)
 ·rw [hlen] at hx
  exact B.ok _ (R.inn _ (lf_at g h al Q p0 hx).2)
 ·rw [hlen] at hx
  have := (lf_at g h al Q p0 hx).2;exact (B.lv _ (R.inn _ this) (R.lv _ this)).1
 ·rw [hlen] at hx
  have := (lf_at g h al Q p0 hx).2;exact (B.lv _ (R.inn _ this) (R.lv _ this)).2
 ·rw [hlen] at hx
  rw [(lf_at g h al Q p0 hx).1];exact ⟨rfl, rfl⟩
 ·rw [hlen] at hx
  rw [(lf_at g h al Q p0 hx).1];rfl
 ·rw [hlen] at hx
  obtain ⟨e, hm⟩ := lf_at g h al Q p0 hx;rw [e];show (((drP g h (plQ Q p0 x)).nxt.filter al).map fun q => Q.idxOf q).map (plQ Q p0) = _
  rw [List.map_map];conv => rhs; rw [← List.map_id ((drP g h (plQ Q p0 x)).nxt.filter al)]
  refine List.map_congr_left fun q hq => ?_
  have hq' := List.mem_filter.1 hq;exact plQ_idx (R.sh _ hm q hq'.1 hq'.2)
theorem alive_of {g h c : List Nd} (hg : GN g) (hh : GN h) (hc : GN c) {p0 : Pz} {ps : List Pz} {al : Pz → Bool} (B : BND g h p0 ps al) {p : Pz} (hp : p ∈ ps) (hb : hasB g h c p) : al p = true := by
 obtain ⟨S, hS⟩ := noB_ex g h c;have huni : ∀ m n : Nd, (uniL m n).Nodup := fun m n => (uni_rises m n).imp fun {a b} hab e => by rw [e] at hab; exact ltB_irr _ hab
 rcases Bool.eq_false_or_eq_true (al p) with h1 | h1
 ·exact h1
 ·have h2 := B.dd S (fun p hp hs => noB_closed hg hh hc hS huni (B.ok p hp) hs) p hp h1
  exact absurd hb ((hS p).1 h2).2.2
theorem bound_is {g h : List Nd} (hg : GN g) (hh : GN h) {t : Bool} {ps : List Pz} {al : Pz → Bool} {Q : List Pz} (B : BND g h (0, 0, t) ps al) (R : RCH g h (0, 0, t) ps al Q) (hl : Q.length ≤ 200) :
  GN (lfG g h al Q) ∧ (∀ k, blP g (lfG g h al Q) k (0, 0, t)) ∧ (∀ k, blP h (lfG g h al Q) k (0, 0, t)) ∧ ∀ c, GN c → ∀ m, m < c.length → (∀ k, blP g c k (0, m, t)) → (∀ k, blP h c k (0, m, t)) → ∀ k, blP (lfG g h al Q) c k (0, m, t) := by
 obtain ⟨H, h0⟩ := gp_of hg hh B R hl;have hp : 0 < (lfG g h al Q).length := H.gn.pos;refine ⟨H.gn, fun k => ?_, fun k => ?_, fun c hc m hm h1 h2 k => ?_⟩
 ·have := up_bl hg hh H k 0 hp false (by rw [h0]; show (0 : Int) ≠ -1; decide)
  rw [h0] at this;exact this
 ·have := up_bl hg hh H k 0 hp true (by rw [h0]; show (0 : Int) ≠ -1; decide)
  rw [h0] at this;exact this
 ·have := low_bl hg hh hc H (fun x hx w q hd hb => ?_) k 0 m hp hm (fun σ hσ => ?_)
  ·rw [h0] at this
   exact this
  ·have hx' : x < Q.length := by have := hx; unfold lfG at this; rwa [List.length_map] at this
   have hin := R.inn _ (lf_at g h al Q (0, 0, t) hx').2;exact alive_of hg hh hc B (B.sh _ hin q (List.of_mem_zip hd).2) hb
  ·rw [h0] at hσ ⊢
   cases σ
   ·exact h1
   ·exact h2
theorem bound_there {g h c : List Nd} (hg : GN g) (hh : GN h) (hc : GN c) {t : Bool} {ps : List Pz} {al : Pz → Bool} (B : BND g h (0, 0, t) ps al) {m : Nat} (hm : m < c.length) (h1 : ∀ k, blP g c k (0, m, t)) (h2 : ∀ k, blP h c k (0, m, t)) : al (0, 0, t) = true :=
 alive_of hg hh hc B B.p0 ⟨m, hm, fun σ _ => by cases σ; exact h1; exact h2⟩
end Go.Proofs.YtpamhimmdoimoaaGreatDoor
