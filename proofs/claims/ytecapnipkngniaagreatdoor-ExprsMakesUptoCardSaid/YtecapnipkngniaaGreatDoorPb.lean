/-
  Plain mathematics: what Put makes of an expression, and the names in it; for every right expression.
-/
import Derived.Test.YtecapnipkngniaaGreatDoorYa
import Derived.Test.YtecapnipkngniaaGreatDoorYc
namespace Go.Proofs.YtecapnipkngniaaGreatDoor
open Go.RowKit

/-- what put makes of a part -/
def putN (nm : ByteArray) (v : Vl) (p : Ex) : Ex := if p.kind = 2 ∧ p.name = nm then Ex.lit v else p
def putX (nm : ByteArray) (v : Vl) : Ex → Ex
  | ⟨kd, n, so, z, s, ks⟩ => putN nm v ⟨kd, n, so, z, s, ks.map (putX nm v)⟩
theorem putX_eq (nm : ByteArray) (v : Vl) (x : Ex) : putX nm v x = putN nm v ⟨x.kind, x.name, x.so, x.n, x.s, x.kids.map (putX nm v)⟩ := by cases x; rw [putX]
theorem putN_cases (nm : ByteArray) (v : Vl) (p : Ex) : (p.kind = 2 ∧ p.name = nm ∧ putN nm v p = Ex.lit v) ∨ (¬ (p.kind = 2 ∧ p.name = nm) ∧ putN nm v p = p) := by
  unfold putN
  by_cases h : p.kind = 2 ∧ p.name = nm
  · rw [if_pos h]; exact .inl ⟨h.1, h.2, rfl⟩
  · rw [if_neg h]; exact .inr ⟨h, rfl⟩
theorem map_wf (G : Ex → Ex) (x : Ex) (h : wfX x) (ih : ∀ k ∈ x.kids, wfX (G k)) : wfX ⟨x.kind, x.name, x.so, x.n, x.s, x.kids.map G⟩ := by
  by_cases h3 : x.kind = 3
  · obtain ⟨a, b, c, d⟩ := wf_form x h h3
    rw [h3, a, b, c]
    refine wf_op _ _ ?_ (by simpa using d)
    intro k hk
    obtain ⟨y, hy, rfl⟩ := List.mem_map.1 hk
    exact ih y hy
  · have : x.kids = [] := by
      rcases wf_cases x h with ⟨_, hk, _⟩ | ⟨_, hk, _⟩ | ⟨h', _⟩ | ⟨h', _⟩
      · exact hk
      · exact hk
      · exact absurd h' h3
      · exact absurd h' h3
    rw [this, List.map_nil, ← this]; cases x; exact h
theorem put_wf (nm : ByteArray) (v : Vl) (hv : v.good) : ∀ x : Ex, wfX x → wfX (putX nm v x) := by
  apply exInd
  intro x ih h
  have hp := map_wf (putX nm v) x h fun k hk => ih k hk (((wfX_eq x).1 h).2.2 k hk)
  rw [putX_eq]
  rcases putN_cases nm v ⟨x.kind, x.name, x.so, x.n, x.s, x.kids.map (putX nm v)⟩ with ⟨_, _, e⟩ | ⟨_, e⟩
  · rw [e]; exact wf_lit v hv
  · rw [e]; exact hp
theorem putN_size (nm : ByteArray) (v : Vl) (p : Ex) : sizeX (putN nm v p) ≤ sizeX p := by
  rcases putN_cases nm v p with ⟨_, _, e⟩ | ⟨_, e⟩
  · rw [e, sizeX_eq p, sizeX_eq (Ex.lit _)]; simp [Ex.lit]
  · rw [e]; exact Nat.le_refl _
theorem sum_leG (G : Ex → Ex) (ks : List Ex) (h : ∀ k ∈ ks, sizeX (G k) ≤ sizeX k) : ((ks.map G).map sizeX).sum ≤ (ks.map sizeX).sum := by
  induction ks with
  | nil => exact Nat.le_refl _
  | cons x ks ih =>
    simp only [List.map_cons, List.sum_cons]
    have h1 := h x (.head _)
    have h2 := ih (fun k hk => h k (.tail _ hk))
    omega
theorem put_size (nm : ByteArray) (v : Vl) : ∀ x : Ex, sizeX (putX nm v x) ≤ sizeX x := by
  apply exInd
  intro x ih
  rw [putX_eq, sizeX_eq x]
  refine Nat.le_trans (putN_size nm v _) ?_
  rw [sizeX_eq]
  have := sum_leG (putX nm v) x.kids ih
  simp only; omega
theorem put_chk (nm : ByteArray) (v : Vl) (hv : v.good) (x : Ex) (h : chkX x = 0) : chkX (putX nm v x) = 0 := by
  obtain ⟨h1, h2⟩ := (chkX_iff x).1 h
  exact (chkX_iff _).2 ⟨put_wf nm v hv x h1, Nat.le_trans (put_size nm v x) h2⟩
theorem put_leaf (nm : ByteArray) (v : Vl) (x : Ex) (h : ¬ (x.kind = 2 ∧ x.name = nm)) (hk : x.kids = []) : putX nm v x = x := by
  rw [putX_eq, hk, List.map_nil, ← hk]
  rcases putN_cases nm v ⟨x.kind, x.name, x.so, x.n, x.s, x.kids⟩ with ⟨a, b, _⟩ | ⟨_, e⟩
  · exact absurd ⟨a, b⟩ h
  · refine e.trans ?_; cases x; rfl
theorem put_hit (nm : ByteArray) (v : Vl) (x : Ex) (h : x.kind = 2) (h2 : x.name = nm) : putX nm v x = Ex.lit v := by
  rw [putX_eq]
  rcases putN_cases nm v ⟨x.kind, x.name, x.so, x.n, x.s, x.kids.map (putX nm v)⟩ with ⟨_, _, e⟩ | ⟨a, _⟩
  · exact e
  · exact absurd ⟨h, h2⟩ a
theorem put_op (nm : ByteArray) (v : Vl) (x : Ex) (h : x.kind = 3) : putX nm v x = ⟨x.kind, x.name, x.so, x.n, x.s, x.kids.map (putX nm v)⟩ := by
  rw [putX_eq]
  rcases putN_cases nm v ⟨x.kind, x.name, x.so, x.n, x.s, x.kids.map (putX nm v)⟩ with ⟨a, _, _⟩ | ⟨_, e⟩
  · exact absurd (show x.kind = 2 from a) (by omega)
  · exact e
/-- a name's place taken by a value: as if the name had that value -/
theorem put_same (nm : ByteArray) (v : Vl) (E E' : ByteArray → Int × Int) (F F' : ByteArray → Vl) (h1 : E' nm = (v.so, 0)) (h2 : F' nm = v) (h3 : ∀ n, n ≠ nm → E' n = E n) (h4 : ∀ n, n ≠ nm → F' n = F n) :
    ∀ x : Ex, wfX x → sortX E (putX nm v x) = sortX E' x ∧ valX F (putX nm v x) = valX F' x := by
  apply exInd
  intro x ih hw
  rcases wf_cases x hw with ⟨h, hk, _⟩ | ⟨h, hk, _⟩ | ⟨h, a, hk, ha, _⟩ | ⟨h, a, b, hk, ha, hb, _⟩
  · rw [put_leaf nm v x (by omega) hk, sort_lit E x h, sort_lit E' x h, val_lit F x h, val_lit F' x h]; exact ⟨rfl, rfl⟩
  · by_cases hn : x.name = nm
    · rw [put_hit nm v x h hn, sort_lit E _ rfl, val_lit F _ rfl, sort_name E' x h, val_name F' x h, hn, h1, h2]; exact ⟨rfl, rfl⟩
    · rw [put_leaf nm v x (fun e => hn e.2) hk, sort_name E x h, sort_name E' x h, val_name F x h, val_name F' x h, h3 _ hn, h4 _ hn]; exact ⟨rfl, rfl⟩
  · obtain ⟨s1, v1⟩ := ih a (by rw [hk]; exact .head _) ha
    rw [put_op nm v x h, hk, List.map_cons, List.map_nil, sort_one E ⟨x.kind, x.name, x.so, x.n, x.s, [putX nm v a]⟩ (putX nm v a) h rfl, val_one F ⟨x.kind, x.name, x.so, x.n, x.s, [putX nm v a]⟩ (putX nm v a) h rfl, sort_one E' x a h hk, val_one F' x a h hk, s1, v1]
    exact ⟨rfl, rfl⟩
  · obtain ⟨s1, v1⟩ := ih a (by rw [hk]; exact .head _) ha
    obtain ⟨s2, v2⟩ := ih b (by rw [hk]; exact .tail _ (.head _)) hb
    rw [put_op nm v x h, hk, List.map_cons, List.map_cons, List.map_nil, sort_two E ⟨x.kind, x.name, x.so, x.n, x.s, [putX nm v a, putX nm v b]⟩ (putX nm v a) (putX nm v b) h rfl, val_two F ⟨x.kind, x.name, x.so, x.n, x.s, [putX nm v a, putX nm v b]⟩ (putX nm v a) (putX nm v b) h rfl, sort_two E' x a b h hk, val_two F' x a b h hk, s1, v1, s2, v2]
    exact ⟨rfl, rfl⟩

/-- the names, as they stand -/
def nmsX : Ex → List ByteArray
  | ⟨kd, n, _, _, _, ks⟩ => if kd = 2 then [n] else (ks.map nmsX).flatten
theorem nmsX_eq (x : Ex) : nmsX x = if x.kind = 2 then [x.name] else (x.kids.map nmsX).flatten := by cases x; rw [nmsX]
theorem nms_small : ∀ x : Ex, wfX x → ∀ n ∈ nmsX x, n.size ≤ 8 := by
  apply exInd
  intro x ih hw n hn
  rw [nmsX_eq] at hn
  by_cases h : x.kind = 2
  · rw [if_pos h] at hn
    simp only [List.mem_singleton] at hn
    subst hn
    rcases wf_cases x hw with ⟨h', _⟩ | ⟨_, _, h1⟩ | ⟨h', _⟩ | ⟨h', _⟩
    · omega
    · unfold isNm at h1
      split at h1
      · cases h1
      · simp only [Bool.and_eq_true, decide_eq_true_eq] at h1
        have : x.name.size = x.name.data.toList.length := by simp
        omega
    · omega
    · omega
  · rw [if_neg h] at hn
    obtain ⟨l, hl, hn⟩ := List.mem_flatten.1 hn
    obtain ⟨k, hk, rfl⟩ := List.mem_map.1 hl
    exact ih k hk (((wfX_eq x).1 hw).2.2 k hk) n hn
theorem nms_len : ∀ x : Ex, (nmsX x).length ≤ sizeX x := by
  apply exInd
  intro x ih
  rw [nmsX_eq, sizeX_eq]
  by_cases h : x.kind = 2
  · rw [if_pos h]; simp
  · rw [if_neg h]
    have : ∀ ks : List Ex, (∀ k ∈ ks, (nmsX k).length ≤ sizeX k) → (ks.map nmsX).flatten.length ≤ (ks.map sizeX).sum := by
      intro ks
      induction ks with
      | nil => intro _; simp
      | cons y ks ihk =>
        intro hh
        have h1 := hh y (.head _)
        have h2 := ihk fun k hk => hh k (.tail _ hk)
        simp only [List.map_cons, List.flatten_cons, List.length_append, List.sum_cons]
        omega
    have := this x.kids ih
    omega
/-- the name is not in it any more -/
theorem put_gone (nm : ByteArray) (v : Vl) : ∀ x : Ex, wfX x → nm ∉ nmsX (putX nm v x) := by
  apply exInd
  intro x ih hw hn
  rcases wf_cases x hw with ⟨h, hk, _⟩ | ⟨h, hk, _⟩ | h'
  · rw [put_leaf nm v x (by omega) hk, nmsX_eq, if_neg (by omega), hk] at hn; simp at hn
  · by_cases he : x.name = nm
    · rw [put_hit nm v x h he, nmsX_eq, if_neg (by simp [Ex.lit])] at hn; simp [Ex.lit] at hn
    · rw [put_leaf nm v x (fun e => he e.2) hk, nmsX_eq, if_pos h] at hn
      simp only [List.mem_singleton] at hn
      exact he hn.symm
  · have h : x.kind = 3 := by rcases h' with h' | h' <;> exact h'.1
    rw [put_op nm v x h, nmsX_eq, if_neg (by simp only; omega)] at hn
    obtain ⟨l, hl, hn⟩ := List.mem_flatten.1 hn
    obtain ⟨y, hy, rfl⟩ := List.mem_map.1 hl
    obtain ⟨k, hk, rfl⟩ := List.mem_map.1 hy
    exact ih k hk (((wfX_eq x).1 hw).2.2 k hk) hn
/-- what hangs on the names alone -/
theorem names_same (E E' : ByteArray → Int × Int) (F F' : ByteArray → Vl) : ∀ x : Ex, wfX x → (∀ n ∈ nmsX x, E' n = E n ∧ F' n = F n) → sortX E x = sortX E' x ∧ valX F x = valX F' x := by
  apply exInd
  intro x ih hw hn
  rw [nmsX_eq] at hn
  rcases wf_cases x hw with ⟨h, hk, _⟩ | ⟨h, hk, _⟩ | ⟨h, a, hk, ha, _⟩ | ⟨h, a, b, hk, ha, hb, _⟩
  · rw [sort_lit E x h, sort_lit E' x h, val_lit F x h, val_lit F' x h]; exact ⟨rfl, rfl⟩
  · rw [if_pos h] at hn
    obtain ⟨e1, e2⟩ := hn x.name (.head _)
    rw [sort_name E x h, sort_name E' x h, val_name F x h, val_name F' x h, e1, e2]; exact ⟨rfl, rfl⟩
  · rw [if_neg (by omega), hk] at hn
    obtain ⟨s1, v1⟩ := ih a (by rw [hk]; exact .head _) ha (fun n h => hn n (by simp [h]))
    rw [sort_one E x a h hk, sort_one E' x a h hk, val_one F x a h hk, val_one F' x a h hk, s1, v1]; exact ⟨rfl, rfl⟩
  · rw [if_neg (by omega), hk] at hn
    obtain ⟨s1, v1⟩ := ih a (by rw [hk]; exact .head _) ha (fun n h => hn n (by simp [h]))
    obtain ⟨s2, v2⟩ := ih b (by rw [hk]; exact .tail _ (.head _)) hb (fun n h => hn n (by simp [h]))
    rw [sort_two E x a b h hk, sort_two E' x a b h hk, val_two F x a b h hk, val_two F' x a b h hk, s1, v1, s2, v2]; exact ⟨rfl, rfl⟩
end Go.Proofs.YtecapnipkngniaaGreatDoor
/-
  The contract of the closure of exprs.Put, for every right part.
-/
namespace Go.Proofs.YtecapnipkngniaaGreatDoor
open Go.RowKit Go.Shelf

/-- the two variables that the closure has caught, in their blocks -/
structure PV (bn bv : Nat) (nm : ByteArray) (v : Vl) (W : World) : Prop where
  ln : bn < W.heap.size
  lv : bv < W.heap.size
  cn : W.cell? ⟨bn, 0, none⟩ = some (.string nm)
  c0 : W.cell? ⟨bv, 0, none⟩ = some (.int .i64 v.so)
  c1 : W.cell? ⟨bv, 1, none⟩ = some (.int .i64 v.n)
  c2 : W.cell? ⟨bv, 2, none⟩ = some (.string v.s)
theorem PV.keep {bn bv : Nat} {nm : ByteArray} {v : Vl} {W W' : World} (h : PV bn bv nm v W) (hb : Below W.heap.size W W') : PV bn bv nm v W' :=
  ⟨Nat.lt_of_lt_of_le h.ln hb.size, Nat.lt_of_lt_of_le h.lv hb.size, (hb.cell (p := ⟨bn, 0, none⟩) h.ln).trans h.cn, (hb.cell (p := ⟨bv, 0, none⟩) h.lv).trans h.c0, (hb.cell (p := ⟨bv, 1, none⟩) h.lv).trans h.c1, (hb.cell (p := ⟨bv, 2, none⟩) h.lv).trans h.c2⟩
/-- what a value must be to be put -/
structure VBd (v : Vl) : Prop where
  n0 : -9223372036854775808 ≤ v.n
  n1 : v.n ≤ 9223372036854775807
  s : v.s.size ≤ 281474976710656

theorem putN_miss (nm : ByteArray) (v : Vl) (p : Ex) (h : ¬ (p.kind = 2 ∧ p.name = nm)) : putN nm v p = p := by unfold putN; rw [if_neg h]
theorem putN_hit (nm : ByteArray) (v : Vl) (p : Ex) (h : p.kind = 2 ∧ p.name = nm) : putN nm v p = Ex.lit v := by unfold putN; rw [if_pos h]

set_option maxHeartbeats 400000 in
theorem put1_a (bn bv : Nat) (nm : ByteArray) (v : Vl) (p : Ex) (ao : Option Addr) (cap : Nat) (w : World) (hbd : ExBd p cap) (h : ¬ p.kind = 2) :
    Calls Tryz.prog 28 #[exVal p ao cap, .pointer (some ⟨bn, 0, none⟩), .pointer (some ⟨bv, 0, none⟩)] w (MadeX w p ao (putN nm v p)) := by
  rw [putN_miss nm v p (fun e => h e.1)]
  have HM := fun w' => made_same w w' p ao cap hbd
  clear hbd
  simp only [exVal] at HM ⊢
  generalize MadeX w p ao p = Q at HM ⊢
  go_enter Tryz.func28, Tryz.ntmps28
  go_wp2_with fail
  refine bodyPost_ret (by simp [results, Tryz.results28, go_sem]) rfl (HM _ (by go_grown))

set_option maxHeartbeats 400000 in
theorem put1_b (bn bv : Nat) (nm : ByteArray) (v : Vl) (p : Ex) (ao : Option Addr) (cap : Nat) (w : World) (hbd : ExBd p cap) (hP : PV bn bv nm v w) (h2 : p.kind = 2) (h : ¬ p.name = nm) :
    Calls Tryz.prog 28 #[exVal p ao cap, .pointer (some ⟨bn, 0, none⟩), .pointer (some ⟨bv, 0, none⟩)] w (MadeX w p ao (putN nm v p)) := by
  rw [putN_miss nm v p (fun e => h e.2)]
  have hbe : (p.name.toList == nm.toList) = false := by rw [ba_beq]; simpa using h
  have HM := fun w' => made_same w w' p ao cap hbd
  have hF := (hP.keep (FW.new w p ao cap).bl).cn
  have hln := hP.ln
  have n1 : ¬ bn = w.heap.size := by omega
  have n2 : ¬ w.heap.size = bn := by omega
  have n3 : ¬ bn = w.heap.size + 1 := by omega
  have n4 : ¬ w.heap.size + 1 = bn := by omega
  clear hbd hP
  simp only [exVal, fwW] at HM hF ⊢
  generalize MadeX w p ao p = Q at HM ⊢
  rw [h2] at HM hF ⊢
  go_enter Tryz.func28, Tryz.ntmps28
  go_wp2_with fail
  refine bodyPost_ret (by simp [results, Tryz.results28, go_sem]) rfl (HM _ (by go_grown))

set_option maxHeartbeats 400000 in
theorem put1_c (bn bv : Nat) (nm : ByteArray) (v : Vl) (p : Ex) (ao : Option Addr) (cap : Nat) (w : World) (hP : PV bn bv nm v w) (hv : VBd v) (h2 : p.kind = 2) (h : p.name = nm) :
    Calls Tryz.prog 28 #[exVal p ao cap, .pointer (some ⟨bn, 0, none⟩), .pointer (some ⟨bv, 0, none⟩)] w (MadeX w p ao (putN nm v p)) := by
  rw [putN_hit nm v p ⟨h2, h⟩]
  have HM : ∀ w', Below w.heap.size w w' → MadeX w p ao (Ex.lit v) (.returned (exVal (Ex.lit v) none 0)) w' := by
    intro w' hb
    refine ⟨⟨none, 0, rfl, .inl rfl, ?_⟩, hb⟩
    refine ⟨?_, ?_, hv.n0, hv.n1, Nat.le_refl _, by omega⟩
    · show (⟨#[]⟩ : ByteArray).size ≤ _; decide
    · show v.s.size ≤ _; have := hv.s; omega
  have c3 := fun W => copied_any v W hv.s
  have c4 := fun W => literal_any v W
  have HF := FW.new w p ao cap
  obtain ⟨_, _, g0, g1, g2, g3⟩ := hP.keep HF.bl
  have hln := hP.ln
  have hlv := hP.lv
  clear hv hP
  obtain ⟨so, n, s⟩ := v
  simp only [exVal, Ex.lit, List.length_nil, vlV] at HM c3 c4 g0 g1 g2 g3 ⊢
  generalize MadeX w p ao ⟨1, ⟨#[]⟩, so, n, s, []⟩ = Q at HM ⊢
  simp only [fwW] at HF g0 g1 g2 g3
  rw [h2] at HF g0 g1 g2 g3 ⊢
  have hm : p.name = nm := h
  subst hm
  have hbe : (p.name.toList == p.name.toList) = true := by simp
  have n1 : ¬ bn = w.heap.size := by omega
  have n2 : ¬ w.heap.size = bn := by omega
  have n3 : ¬ bn = w.heap.size + 1 := by omega
  have n4 : ¬ w.heap.size + 1 = bn := by omega
  have n5 : ¬ bv = w.heap.size := by omega
  have n6 : ¬ w.heap.size = bv := by omega
  have n7 : ¬ bv = w.heap.size + 1 := by omega
  have n8 : ¬ w.heap.size + 1 = bv := by omega
  go_enter Tryz.func28, Tryz.ntmps28
  go_wp2_with fail
  refine (c3 _).mono ?_
  rintro e w3 ⟨rfl, hb3⟩
  have HH3 : Hid (FW w p ao cap w3) := HF.keep hb3
  have C4 := c4 w3
  clear c3 c4 hb3 HF g0 g1 g2 g3
  go_wp2_with fail
  refine C4.mono ?_
  rintro e w4 ⟨rfl, hb4⟩
  obtain ⟨y0, y1, y2, y3, y4, y5, hz, hbl⟩ := HH3.out.keep hb4
  obtain ⟨hzl, z0, z1, z2, z3, z4, z5, zf⟩ := hz
  have zf0 := zf 0
  have zf1 := zf 1
  have zf2 := zf 2
  have zf3 := zf 3
  have zf4 := zf 4
  have zf5 := zf 5
  clear zf hb4 C4
  go_wp2_with fail
  refine bodyPost_ret (by simp [results, Tryz.results28, go_sem, z0, z1, z2, z3, z4, z5]) rfl (HM _ (by go_grown))

theorem put1_any (bn bv : Nat) (nm : ByteArray) (v : Vl) (p : Ex) (ao : Option Addr) (cap : Nat) (w : World) (hbd : ExBd p cap) (hP : PV bn bv nm v w) (hv : VBd v) :
    Calls Tryz.prog 28 #[exVal p ao cap, .pointer (some ⟨bn, 0, none⟩), .pointer (some ⟨bv, 0, none⟩)] w (MadeX w p ao (putN nm v p)) := by
  by_cases h2 : p.kind = 2
  · by_cases h : p.name = nm
    · exact put1_c bn bv nm v p ao cap w hP hv h2 h
    · exact put1_b bn bv nm v p ao cap w hbd hP h2 h
  · exact put1_a bn bv nm v p ao cap w hbd h2
end Go.Proofs.YtecapnipkngniaaGreatDoor
