/-
  Plain mathematics: what a type does, up to each depth, where its names mean something; a Rec is the one solution of its equation.
-/
import Derived.Test.YthhbbhijpkoelaaDoorHq
import Derived.Test.YthhbbhijpkoelaaDoorHd
namespace Go.Proofs.YthhbbhijpkoelaaDoor

abbrev Dn := Nat → Tr
def tr0 : Tr := ⟨0, 0, [], []⟩
def itD (F : Dn → Dn) : Nat → Dn
  | 0 => fun _ => tr0
  | n + 1 => F (itD F n)
def upD (r : ByteArray → Dn) (x : ByteArray) (f : Dn) : ByteArray → Dn := fun y => if y = x then f else r y
/-- what a node does itself, its Kids doing this -/
def stD (kd so : Int) (ls : List ByteArray) (fs : List Dn) : Dn
  | 0 => tr0
  | k + 1 => ⟨kd, so, ls, fs.map fun f => f k⟩
def den : Ty → (ByteArray → Dn) → Dn
  | ⟨kd, so, nm, ls, ks⟩, r =>
    if kd = 9 then r nm
    else if kd = 8 then ks.foldl (fun _ q => fun k => itD (fun f => den q (upD r nm f)) (k + 1) k) (fun _ => tr0)
    else stD kd so ls (ks.map fun q => den q r)
theorem den_var (t : Ty) (r : ByteArray → Dn) (h : t.kind = 9) : den t r = r t.name := by cases t; rw [den, if_pos h]
theorem den_rec (t : Ty) (r : ByteArray → Dn) (h : t.kind = 8) (q : Ty) (hk : t.kids = [q]) : den t r = fun k => itD (fun f => den q (upD r t.name f)) (k + 1) k := by
  cases t
  simp only at h hk
  subst h hk
  rw [den, if_neg (by decide), if_pos rfl]
  rfl
theorem den_node (t : Ty) (r : ByteArray → Dn) (h9 : t.kind ≠ 9) (h8 : t.kind ≠ 8) : den t r = stD t.kind t.so t.labels (t.kids.map fun q => den q r) := by
  cases t
  rw [den, if_neg h9, if_neg h8]
/-- nothing but Recs stands ahead of a Var -/
def idT : Ty → Bool
  | ⟨kd, _, _, _, ks⟩ => if kd = 9 then true else if kd = 8 then ks.foldl (fun _ q => idT q) false else false
theorem idT_var (t : Ty) (h : t.kind = 9) : idT t = true := by cases t; rw [idT, if_pos h]
theorem idT_rec (t : Ty) (h : t.kind = 8) (q : Ty) (hk : t.kids = [q]) : idT t = idT q := by
  cases t
  simp only at h hk
  subst h hk
  rw [idT, if_neg (by decide), if_pos rfl]
  rfl
theorem idT_node (t : Ty) (h9 : t.kind ≠ 9) (h8 : t.kind ≠ 8) : idT t = false := by
  cases t
  rw [idT, if_neg h9, if_neg h8]
/-- right in all its parts, and no Rec of it is idle -/
def gdT : Ty → Prop
  | ⟨kd, so, nm, ls, ks⟩ => partT ⟨kd, so, nm, ls, ks⟩ = true ∧ (kd = 8 → idT ⟨kd, so, nm, ls, ks⟩ = false) ∧ ∀ k ∈ ks, gdT k
theorem gdT_eq (t : Ty) : gdT t ↔ partT t = true ∧ (t.kind = 8 → idT t = false) ∧ ∀ k ∈ t.kids, gdT k := by cases t; rw [gdT]
theorem gdT_wf : ∀ t : Ty, gdT t → wfT t := by
  apply tyInd
  intro t ih h
  obtain ⟨h1, _, h3⟩ := (gdT_eq t).1 h
  exact (wfT_eq t).2 ⟨h1, fun k hk => ih k hk (h3 k hk)⟩
/-- names that are not bound are among these -/
def clT : Ty → List ByteArray → Prop
  | ⟨kd, _, nm, _, ks⟩, ns => (kd = 9 → nm ∈ ns) ∧ ∀ k ∈ ks, clT k (if kd = 8 then ns ++ [nm] else ns)
theorem clT_eq (t : Ty) (ns : List ByteArray) : clT t ns ↔ (t.kind = 9 → t.name ∈ ns) ∧ ∀ k ∈ t.kids, clT k (if t.kind = 8 then ns ++ [t.name] else ns) := by cases t; rw [clT]
theorem part_rec {t : Ty} (hp : partT t = true) (h8 : t.kind = 8) : ∃ q, t.kids = [q] := by
  have h1 : t.kids.length = 1 := by
    unfold partT at hp
    simp [h8] at hp
    exact hp.2
  match hq : t.kids, h1 with
  | [q], _ => exact ⟨q, rfl⟩
theorem idle_idT : ∀ t : Ty, wfT t → ∀ n, sizeT t ≤ n → idleN n t = idT t := by
  apply tyInd
  intro t ih hw n hn
  obtain ⟨hp, hk⟩ := (wfT_eq t).1 hw
  have hs := sizeT_eq t
  by_cases h8 : t.kind = 8
  · obtain ⟨q, hq⟩ := part_rec hp h8
    obtain ⟨n', rfl⟩ : ∃ n', n = n' + 1 := ⟨n - 1, by omega⟩
    rw [idle_go n' t h8 (by rw [hq]; rfl), idT_rec t h8 q hq]
    have hm : q ∈ t.kids := by rw [hq]; exact .head _
    have e : t.kids[0]'(by rw [hq]; exact Nat.one_pos) = q := by simp [hq]
    rw [e]
    exact ih q hm (hk q hm) n' (by have := sizeT_kid hm; omega)
  · rw [idle_stop n t h8]
    by_cases h9 : t.kind = 9
    · rw [idT_var t h9]; simpa using h9
    · rw [idT_node t h9 h8]; simpa using h9
/-- what Check lets by -/
theorem chkTL_gd (ks : List Ty) (ar : List ByteArray) : ∀ (a : Int × Nat), a.2 ≤ 60 → (∀ k ∈ ks, ∀ ar c, c ≤ 60 → (chkT k ar c).1 = 0 → gdT k ∧ clT k ar) → (chkTL ar ks a).1 = 0 → ∀ k ∈ ks, gdT k ∧ clT k ar := by
  induction ks with
  | nil => intro a _ _ _ k hk; cases hk
  | cons x ks ih =>
    intro a h60 hk h0
    rw [chkTL_cons] at h0
    by_cases ha : a.1 ≠ 0
    · rw [if_pos ha, chkTL_bad _ _ _ ha] at h0; exact absurd h0 ha
    · rw [if_neg ha] at h0
      by_cases hx : (chkT x ar a.2).1 = 0
      · have h1 := hk x (.head _) ar a.2 h60 hx
        have h2 := ih _ (chkT_cnt x ar a.2 h60 hx).2 (fun k hm => hk k (.tail _ hm)) h0
        intro k hm
        rcases List.mem_cons.1 hm with rfl | hm
        · exact h1
        · exact h2 k hm
      · rw [chkTL_bad _ _ _ hx] at h0; exact absurd h0 hx
theorem chkT_gd : ∀ t : Ty, ∀ ar c, c ≤ 60 → (chkT t ar c).1 = 0 → gdT t ∧ clT t ar := by
  apply tyInd
  intro t ih ar c hc h
  have hall := chkT_all t ar c h
  have hcnt := chkT_cnt t ar c hc h
  rw [chkT_eq] at h
  by_cases h1 : 60 < c + 1
  · rw [if_pos h1] at h; exact absurd h (by simp)
  rw [if_neg h1] at h
  by_cases h2 : partT t = false
  · rw [if_pos h2] at h; exact absurd h (by simp)
  rw [if_neg h2] at h
  by_cases h3 : t.kind = 9 ∧ hasN ar t.name = false
  · rw [if_pos h3] at h; exact absurd h (by simp)
  rw [if_neg h3] at h
  by_cases h4 : t.kind = 8 ∧ idleN 65536 t = true
  · rw [if_pos h4] at h; exact absurd h (by simp)
  rw [if_neg h4] at h
  have hk := chkTL_gd t.kids _ (0, c + 1) (by show c + 1 ≤ 60; omega) ih h
  refine ⟨(gdT_eq t).2 ⟨by simpa using h2, fun h8 => ?_, fun k hm => (hk k hm).1⟩, (clT_eq t ar).2 ⟨fun h9 => ?_, fun k hm => (hk k hm).2⟩⟩
  · have hs : sizeT t ≤ 60 := by omega
    rw [← idle_idT t hall.1 65536 (by omega)]
    cases hq : idleN 65536 t with
    | false => rfl
    | true => exact absurd ⟨h8, hq⟩ h4
  · cases hq : hasN ar t.name with
    | false => exact absurd ⟨h9, hq⟩ h3
    | true => exact (hasN_iff _ _).1 hq
theorem chkTy_gd (t : Ty) (h : chkTy t = 0) : gdT t ∧ clT t [] ∧ idT t = false := by
  have h1 := chkT_gd t [] 0 (by omega) h
  refine ⟨h1.1, h1.2, ?_⟩
  by_cases h8 : t.kind = 8
  · exact ((gdT_eq t).1 h1.1).2.1 h8
  · refine idT_node t (fun h9 => ?_) h8
    exact absurd (((clT_eq t []).1 h1.2).1 h9) (by simp)

/-! ### Depths -/
def agD (n : Nat) (r r' : ByteArray → Dn) : Prop := ∀ x j, j < n → r x j = r' x j
theorem agD.up {n : Nat} {r r' : ByteArray → Dn} (h : agD n r r') (x : ByteArray) {f f' : Dn} (hf : ∀ j, j < n → f j = f' j) : agD n (upD r x f) (upD r' x f') := by
  intro y j hj
  unfold upD
  split
  · exact hf j hj
  · exact h y j hj
theorem stD_map {kd so : Int} {ls : List ByteArray} {ks : List Ty} {F G : Ty → Dn} {n : Nat} (h : ∀ q ∈ ks, ∀ j, j < n → F q j = G q j) : ∀ j, j < n + 1 → stD kd so ls (ks.map F) j = stD kd so ls (ks.map G) j := by
  intro j hj
  cases j with
  | zero => rfl
  | succ j =>
    simp only [stD, List.map_map]
    congr 1
    exact List.map_congr_left fun q hq => h q hq j (by omega)
/-- what does the same up to a depth gives the same up to it -/
theorem den_ne : ∀ t : Ty, wfT t → ∀ n r r', agD n r r' → ∀ j, j < n → den t r j = den t r' j := by
  apply tyInd
  intro t ih hw n r r' h j hj
  obtain ⟨hp, hk⟩ := (wfT_eq t).1 hw
  by_cases h9 : t.kind = 9
  · rw [den_var t r h9, den_var t r' h9]; exact h _ j hj
  by_cases h8 : t.kind = 8
  · obtain ⟨q, hq⟩ := part_rec hp h8
    have hm : q ∈ t.kids := by rw [hq]; exact .head _
    rw [den_rec t r h8 q hq, den_rec t r' h8 q hq]
    have : ∀ m j, j < n → itD (fun f => den q (upD r t.name f)) m j = itD (fun f => den q (upD r' t.name f)) m j := by
      intro m
      induction m with
      | zero => intro j _; rfl
      | succ m ihm => exact ih q hm (hk q hm) n _ _ (h.up t.name ihm)
    exact this (j + 1) j hj
  · rw [den_node t r h9 h8, den_node t r' h9 h8]
    cases n with
    | zero => omega
    | succ n => exact stD_map (fun q hq j hj => ih q hq (hk q hq) (n + 1) r r' h j (by omega)) j hj
/-- and one depth further, where something stands ahead of its names -/
theorem den_ct : ∀ t : Ty, wfT t → idT t = false → ∀ n r r', agD n r r' → ∀ j, j < n + 1 → den t r j = den t r' j := by
  apply tyInd
  intro t ih hw hi n r r' h j hj
  obtain ⟨hp, hk⟩ := (wfT_eq t).1 hw
  by_cases h9 : t.kind = 9
  · rw [idT_var t h9] at hi; cases hi
  by_cases h8 : t.kind = 8
  · obtain ⟨q, hq⟩ := part_rec hp h8
    have hm : q ∈ t.kids := by rw [hq]; exact .head _
    rw [idT_rec t h8 q hq] at hi
    rw [den_rec t r h8 q hq, den_rec t r' h8 q hq]
    have : ∀ m j, j < n + 1 → itD (fun f => den q (upD r t.name f)) m j = itD (fun f => den q (upD r' t.name f)) m j := by
      intro m
      induction m with
      | zero => intro j _; rfl
      | succ m ihm => exact ih q hm (hk q hm) hi n _ _ (h.up t.name (fun j hj => ihm j (by omega)))
    exact this (j + 1) j hj
  · rw [den_node t r h9 h8, den_node t r' h9 h8]
    exact stD_map (fun q hq j hj => den_ne q (hk q hq) n r r' h j hj) j hj
/-- a step that looks only at what lies nearer -/
def ctF (F : Dn → Dn) : Prop := ∀ n f f', (∀ j, j < n → f j = f' j) → ∀ j, j < n + 1 → F f j = F f' j
theorem ct_stab {F : Dn → Dn} (h : ctF F) : ∀ n m, n ≤ m → ∀ j, j < n → itD F n j = itD F m j
  | 0, _, _, j, hj => by omega
  | n + 1, 0, hm, _, _ => by omega
  | n + 1, m + 1, hm, j, hj => h n _ _ (ct_stab h n m (by omega)) j hj
theorem ct_fix {F : Dn → Dn} (h : ctF F) (k : Nat) : itD F (k + 1) k = F (fun k => itD F (k + 1) k) k :=
  h k _ _ (fun j hj => (ct_stab h (j + 1) k (by omega) j (by omega)).symm) k (by omega)
theorem ct_one {F : Dn → Dn} (h : ctF F) {f g : Dn} (hf : ∀ k, f k = F f k) (hg : ∀ k, g k = F g k) : f = g := by
  have : ∀ n j, j < n → f j = g j := by
    intro n
    induction n with
    | zero => intro j hj; omega
    | succ n ih => intro j hj; rw [hf j, hg j]; exact h n f g ih j hj
  exact funext fun j => this (j + 1) j (by omega)
theorem den_ctF {q : Ty} (hw : wfT q) (hi : idT q = false) (r : ByteArray → Dn) (x : ByteArray) : ctF fun f => den q (upD r x f) := fun n _ _ hf j hj =>
  den_ct q hw hi n _ _ (agD.up (fun _ _ _ => rfl) x hf) j hj
theorem rec_parts {t : Ty} (hg : gdT t) (h8 : t.kind = 8) : ∃ q, t.kids = [q] ∧ gdT q ∧ idT q = false := by
  obtain ⟨hp, hi, hk⟩ := (gdT_eq t).1 hg
  obtain ⟨q, hq⟩ := part_rec hp h8
  have := hi h8
  rw [idT_rec t h8 q hq] at this
  exact ⟨q, hq, hk q (by rw [hq]; exact .head _), this⟩
/-- a Rec does what its body does, its name being itself -/
theorem den_fix {t : Ty} (hg : gdT t) (h8 : t.kind = 8) {q : Ty} (hq : t.kids = [q]) (r : ByteArray → Dn) : den t r = den q (upD r t.name (den t r)) := by
  obtain ⟨q', hq', hgq, hi⟩ := rec_parts hg h8
  obtain rfl : q = q' := by rw [hq] at hq'; injection hq'
  rw [den_rec t r h8 q hq]
  exact funext fun k => ct_fix (den_ctF (gdT_wf q hgq) hi r t.name) k
/-- and nothing else does -/
theorem den_one {t : Ty} (hg : gdT t) (h8 : t.kind = 8) {q : Ty} (hq : t.kids = [q]) (r : ByteArray → Dn) {f : Dn} (hf : f = den q (upD r t.name f)) : f = den t r := by
  obtain ⟨q', hq', hgq, hi⟩ := rec_parts hg h8
  obtain rfl : q = q' := by rw [hq] at hq'; injection hq'
  exact ct_one (den_ctF (gdT_wf q hgq) hi r t.name) (fun k => congrFun hf k) (fun k => congrFun (den_fix hg h8 hq r) k)
/-- names that it has not are of no account -/
theorem den_cl : ∀ t : Ty, wfT t → ∀ ns r r', clT t ns → (∀ x ∈ ns, r x = r' x) → den t r = den t r' := by
  apply tyInd
  intro t ih hw ns r r' hc h
  obtain ⟨hp, hk⟩ := (wfT_eq t).1 hw
  obtain ⟨c1, c2⟩ := (clT_eq t ns).1 hc
  by_cases h9 : t.kind = 9
  · rw [den_var t r h9, den_var t r' h9]; exact h _ (c1 h9)
  by_cases h8 : t.kind = 8
  · obtain ⟨q, hq⟩ := part_rec hp h8
    have hm : q ∈ t.kids := by rw [hq]; exact .head _
    have hcq := c2 q hm
    rw [if_pos h8] at hcq
    have e : (fun f => den q (upD r t.name f)) = fun f => den q (upD r' t.name f) := funext fun f => ih q hm (hk q hm) _ _ _ hcq fun x hx => by
      unfold upD
      by_cases hxn : x = t.name
      · rw [if_pos hxn, if_pos hxn]
      · rw [if_neg hxn, if_neg hxn]
        rcases List.mem_append.1 hx with hx | hx
        · exact h x hx
        · exact absurd (List.mem_singleton.1 hx) hxn
    rw [den_rec t r h8 q hq, den_rec t r' h8 q hq, e]
  · rw [den_node t r h9 h8, den_node t r' h9 h8]
    congr 1
    refine List.map_congr_left fun q hq => ?_
    have hcq := c2 q hq
    rw [if_neg h8] at hcq
    exact ih q hq (hk q hq) ns r r' hcq h
end Go.Proofs.YthhbbhijpkoelaaDoor
