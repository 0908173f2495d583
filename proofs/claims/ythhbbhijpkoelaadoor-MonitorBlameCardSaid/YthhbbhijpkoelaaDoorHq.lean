/-
  What Check lets by has at most 60 parts, each right; the contracts of types.size and types.Size, for every type.
-/
import Derived.Test.YthhbbhijpkoelaaDoorKd
import Derived.Test.YthhbbhijpkoelaaDoorHm
import Derived.Deep.Quiet
namespace Go.Proofs.YthhbbhijpkoelaaDoor
open Go.RowKit Go.Shelf

/-- right in all its parts -/
def wfT : Ty → Prop
  | ⟨kd, so, nm, ls, ks⟩ => partT ⟨kd, so, nm, ls, ks⟩ = true ∧ ∀ k ∈ ks, wfT k
theorem wfT_eq (t : Ty) : wfT t ↔ partT t = true ∧ ∀ k ∈ t.kids, wfT k := by cases t; rw [wfT]
theorem chkTL_all (ar : List ByteArray) (ks : List Ty) : ∀ (a : Int × Nat), (∀ k ∈ ks, ∀ ar c, (chkT k ar c).1 = 0 → wfT k ∧ (chkT k ar c).2 = c + sizeT k) → (chkTL ar ks a).1 = 0 → (∀ k ∈ ks, wfT k) ∧ (chkTL ar ks a).2 = a.2 + (ks.map sizeT).sum := by
  induction ks with
  | nil => intro a _ _; exact ⟨fun k hk => (by cases hk), rfl⟩
  | cons x ks ih =>
    intro a hk h0
    rw [chkTL_cons] at h0 ⊢
    by_cases ha : a.1 ≠ 0
    · rw [if_pos ha, chkTL_bad _ _ _ ha] at h0; exact absurd h0 ha
    · rw [if_neg ha] at h0 ⊢
      by_cases hx : (chkT x ar a.2).1 = 0
      · have h1 := hk x (.head _) ar a.2 hx
        have h2 := ih _ (fun k hm => hk k (.tail _ hm)) h0
        refine ⟨fun k hm => ?_, ?_⟩
        · rcases List.mem_cons.1 hm with rfl | hm
          · exact h1.1
          · exact h2.1 k hm
        · rw [h2.2, h1.2]; simp only [List.map_cons, List.sum_cons]; omega
      · rw [chkTL_bad _ _ _ hx] at h0; exact absurd h0 hx
theorem chkT_all : ∀ t : Ty, ∀ ar c, (chkT t ar c).1 = 0 → wfT t ∧ (chkT t ar c).2 = c + sizeT t := by
  apply tyInd
  intro t ih ar c h
  have hs := sizeT_eq t
  rw [chkT_eq] at h ⊢
  by_cases h1 : 60 < c + 1
  · rw [if_pos h1] at h; exact absurd h (by simp)
  rw [if_neg h1] at h ⊢
  by_cases h2 : partT t = false
  · rw [if_pos h2] at h; exact absurd h (by simp)
  rw [if_neg h2] at h ⊢
  by_cases h3 : t.kind = 9 ∧ hasN ar t.name = false
  · rw [if_pos h3] at h; exact absurd h (by simp)
  rw [if_neg h3] at h ⊢
  by_cases h4 : t.kind = 8 ∧ idleN 65536 t = true
  · rw [if_pos h4] at h; exact absurd h (by simp)
  rw [if_neg h4] at h ⊢
  have := chkTL_all _ t.kids (0, c + 1) ih h
  refine ⟨(wfT_eq t).2 ⟨by simpa using h2, this.1⟩, ?_⟩
  rw [this.2, hs]; simp only; omega
theorem chkTy_good (t : Ty) (h : chkTy t = 0) : wfT t ∧ sizeT t ≤ 60 := by
  have h1 := chkT_all t [] 0 h
  have h2 := chkT_cnt t [] 0 (by omega) h
  exact ⟨h1.1, by omega⟩

theorem sum_take_le (ks : List Ty) (k : Nat) : ((ks.take k).map sizeT).sum ≤ (ks.map sizeT).sum := by
  conv => rhs; rw [← List.take_append_drop k ks]
  rw [List.map_append, List.sum_append]; omega

end Go.Proofs.YthhbbhijpkoelaaDoor
/-
  How a type is laid as a graph (plain); the names around it with their nodes: graph.meant, slices.Clip, append.
-/
namespace Go.Proofs.YthhbbhijpkoelaaDoor
open Go.RowKit Go.Shelf

abbrev Ar := List (ByteArray × Nat)
def meantP (nm : ByteArray) (ar : Ar) : Nat := ar.foldl (fun a p => if p.1 = nm then p.2 else a) 0
/-- the number of the node that does what a type does, and the nodes that are laid for it, from number n on -/
def layP : Ty → Ar → Nat → Nat × List Nd
  | ⟨kd, so, nm, ls, ks⟩, ar, n =>
    if kd = 9 then (meantP nm ar, [])
    else if kd = 8 then ks.foldl (fun _ k => layP k (ar ++ [(nm, n)]) n) (0, [])
    else (n, ⟨kd, so, ls, (ks.foldl (fun (a : List Nat × List Nd) k => (a.1 ++ [(layP k ar (n + 1 + a.2.length)).1], a.2 ++ (layP k ar (n + 1 + a.2.length)).2)) ([], [])).1⟩ :: (ks.foldl (fun (a : List Nat × List Nd) k => (a.1 ++ [(layP k ar (n + 1 + a.2.length)).1], a.2 ++ (layP k ar (n + 1 + a.2.length)).2)) ([], [])).2)
def layL (ar : Ar) (n : Nat) (ks : List Ty) : List Nat × List Nd := ks.foldl (fun (a : List Nat × List Nd) k => (a.1 ++ [(layP k ar (n + a.2.length)).1], a.2 ++ (layP k ar (n + a.2.length)).2)) ([], [])
theorem layP_var (t : Ty) (ar : Ar) (n : Nat) (h : t.kind = 9) : layP t ar n = (meantP t.name ar, []) := by cases t; rw [layP, if_pos h]
theorem layP_rec (t : Ty) (ar : Ar) (n : Nat) (h : t.kind = 8) (k : Ty) (hk : t.kids = [k]) : layP t ar n = layP k (ar ++ [(t.name, n)]) n := by
  cases t
  simp only at h hk
  subst h hk
  rw [layP, if_neg (by decide), if_pos rfl]
  rfl
theorem layP_node (t : Ty) (ar : Ar) (n : Nat) (h9 : t.kind ≠ 9) (h8 : t.kind ≠ 8) : layP t ar n = (n, ⟨t.kind, t.so, t.labels, (layL ar (n + 1) t.kids).1⟩ :: (layL ar (n + 1) t.kids).2) := by
  cases t
  rw [layP, if_neg h9, if_neg h8]
  rfl
theorem layL_snoc (ar : Ar) (n : Nat) (ks : List Ty) (k : Ty) : layL ar n (ks ++ [k]) = ((layL ar n ks).1 ++ [(layP k ar (n + (layL ar n ks).2.length)).1], (layL ar n ks).2 ++ (layP k ar (n + (layL ar n ks).2.length)).2) := by
  unfold layL; rw [List.foldl_append]; rfl
theorem layL_len (ar : Ar) (n : Nat) : ∀ ks : List Ty, (layL ar n ks).1.length = ks.length := by
  have : ∀ (ks : List Ty) (a : List Nat × List Nd), (ks.foldl (fun (a : List Nat × List Nd) k => (a.1 ++ [(layP k ar (n + a.2.length)).1], a.2 ++ (layP k ar (n + a.2.length)).2)) a).1.length = a.1.length + ks.length := by
    intro ks
    induction ks with
    | nil => intro a; rfl
    | cons k ks ih => intro a; rw [List.foldl_cons, ih]; simp; omega
  intro ks
  unfold layL
  rw [this]
  simp
theorem lay_size : ∀ t : Ty, wfT t → ∀ ar n, (layP t ar n).2.length ≤ sizeT t := by
  apply tyInd
  intro t ih hw ar n
  have hs := sizeT_eq t
  obtain ⟨hp, hk⟩ := (wfT_eq t).1 hw
  by_cases h9 : t.kind = 9
  · rw [layP_var t ar n h9]; simp
  · by_cases h8 : t.kind = 8
    · have h1 : t.kids.length = 1 := by
        unfold partT at hp
        simp [h8] at hp
        exact hp.2
      match hq : t.kids, h1 with
      | [k], _ =>
        rw [layP_rec t ar n h8 k hq]
        have := ih k (by rw [hq]; exact .head _) (hk k (by rw [hq]; exact .head _)) (ar ++ [(t.name, n)]) n
        rw [hq] at hs
        simp at hs
        omega
    · rw [layP_node t ar n h9 h8]
      have : ∀ (ks : List Ty), (∀ k ∈ ks, k ∈ t.kids) → ∀ (a : List Nat × List Nd), (ks.foldl (fun (a : List Nat × List Nd) k => (a.1 ++ [(layP k ar (n + 1 + a.2.length)).1], a.2 ++ (layP k ar (n + 1 + a.2.length)).2)) a).2.length ≤ a.2.length + (ks.map sizeT).sum := by
        intro ks
        induction ks with
        | nil => intro _ a; simp
        | cons k ks ih2 =>
          intro hm a
          rw [List.foldl_cons]
          refine Nat.le_trans (ih2 (fun x hx => hm x (.tail _ hx)) _) ?_
          have := ih k (hm k (.head _)) (hk k (hm k (.head _))) ar (n + 1 + a.2.length)
          simp only [List.length_append, List.map_cons, List.sum_cons]
          omega
      have h := this t.kids (fun k hk => hk) ([], [])
      simp only [List.length_cons]
      unfold layL
      simp at h
      omega
/-- the names around lie apart from block pg and from a row -/
def MR (W : World) (pg : Nat) (row : Option Nat) (ar : Ar) (aa : Option Addr) (ca : Nat) : Prop :=
  (ar = [] ∧ aa = none ∧ ca = 0) ∨ (ar.length ≤ ca ∧ ∃ b o, aa = some ⟨b, o, none⟩ ∧ b < W.heap.size ∧ b ≠ pg ∧ row ≠ some b ∧ ∀ i (h : i < ar.length), W.cell? ⟨b, o + i * 2, none⟩ = some (.string ar[i].1) ∧ W.cell? ⟨b, o + i * 2 + 1, none⟩ = some (.int .i64 (ar[i].2 : Int)))
theorem MR.clip {W : World} {pg : Nat} {row : Option Nat} {ar : Ar} {aa : Option Addr} {ca : Nat} (h : MR W pg row ar aa ca) : MR W pg row ar aa ar.length := by
  rcases h with ⟨rfl, rfl, _⟩ | ⟨_, h⟩
  · exact .inl ⟨rfl, rfl, rfl⟩
  · exact .inr ⟨Nat.le_refl _, h⟩
theorem MR.keep {W W' : World} {pg : Nat} {row row' : Option Nat} {ar : Ar} {aa : Option Addr} {ca : Nat} (h : MR W pg row ar aa ca) (hf : RF pg pg row W W') (hn : row' = row ∨ ∀ k, row' = some k → W.heap.size ≤ k) : MR W' pg row' ar aa ca :=
  h.imp id fun ⟨hc, b, o, e, hl, hp, hr, hcell⟩ => ⟨hc, b, o, e, Nat.lt_of_lt_of_le hl hf.size, hp, fresh_ne hn hl hr, fun i hi => ⟨(hf.cell hl hp hp (fun e => hr e.symm)).trans (hcell i hi).1, (hf.cell hl hp hp (fun e => hr e.symm)).trans (hcell i hi).2⟩⟩
theorem RF.of {fb rb : Nat} {row : Option Nat} {w w' : World} (h : Below w.heap.size w w') : RF fb rb row w w' := ⟨h.os, h.tape, h.output, h.size, fun k hk _ _ _ => h.block k hk⟩
theorem RF.trans {fb rb : Nat} {row row' : Option Nat} {a b c : World} (h : RF fb rb row a b) (k : RF fb rb row' b c) (hn : row' = row ∨ ∀ j, row' = some j → a.heap.size ≤ j) : RF fb rb row a c :=
  ⟨k.os.trans h.os, k.tape.trans h.tape, k.output.trans h.output, Nat.le_trans h.size k.size, fun i hi h1 h2 h3 => (k.block i (Nat.lt_of_lt_of_le hi h.size) h1 h2 (fun e => fresh_ne hn hi (fun q => h3 q.symm) e.symm)).trans (h.block i hi h1 h2 h3)⟩
set_option maxRecDepth 100000 in
set_option maxHeartbeats 2000000 in
theorem meant_any (nm : ByteArray) (ar : Ar) (aa : Option Addr) (ca pg : Nat) (row : Option Nat) (w : World) (h : MR w pg row ar aa ca) (hl : ar.length ≤ 1000) :
    Calls Tryd.prog 53 #[.string nm, .slice aa ar.length ca] w fun e w' => e = .returned (.int .i64 (meantP nm ar : Int)) ∧ Below w.heap.size w w' := by
  have hlz : (ar.length : Int) ≤ 1000 := by omega
  go_enter Tryd.func53, Tryd.ntmps53
  go_wp2_with fail
  go_loopw [5, 10] (fun z i wr => ∃ k : Nat, k ≤ ar.length ∧ i = .int .i64 (k : Int) ∧ z = .int .i64 (meantP nm (ar.take k) : Int) ∧ Below w.heap.size w wr) (fun _ i _ => ar.length - (intOf i).toNat)
  case atStart => exact ⟨0, Nat.zero_le _, rfl, rfl, Below.refl _ _⟩
  case round =>
    obtain ⟨k, hk, rfl, rfl, hb⟩ := hrel
    by_cases hlt : k < ar.length
    · have hltz : (k : Int) < (ar.length : Int) := by omega
      obtain ⟨_, b, o, rfl, hbl, _, _, hc⟩ := h.resolve_left (fun q => by rw [q.1] at hlt; simp at hlt)
      have d0 := (hb.cell (p := ⟨b, o + k * 2, none⟩) hbl).trans (hc k hlt).1
      have d1 := (hb.cell (p := ⟨b, o + k * 2 + 1, none⟩) hbl).trans (hc k hlt).2
      have HT := hideK (show meantP nm (ar.take (k + 1)) = if ar[k].1 = nm then ar[k].2 else meantP nm (ar.take k) from by unfold meantP; rw [List.take_succ_eq_append_getElem hlt, List.foldl_append]; rfl)
      have HB := hideK hb
      clear hb hc
      by_cases he : ar[k].1 = nm
      · have heb : (ar[k].1.toList == nm.toList) = true := by rw [he]; simp
        rw [if_pos he] at HT
        have HB2 := hideK (show Below w.heap.size w (wr.alloc (.cells #[.string ar[k].1, .int .i64 (ar[k].2 : Int)] 111)) from HB.out.alloc HB.out.size _)
        clear he
        go_wp2_with fail
        go_roundw
        case rel => exact ⟨k + 1, by omega, by go_num, by rw [HT.out], HB2.out⟩
        case measure => simp [intOf]; omega
      · have heb : (ar[k].1.toList == nm.toList) = false := by rw [ba_beq]; simpa using he
        rw [if_neg he] at HT
        have HB2 := hideK (show Below w.heap.size w (wr.alloc (.cells #[.string ar[k].1, .int .i64 (ar[k].2 : Int)] 111)) from HB.out.alloc HB.out.size _)
        clear he
        go_wp2_with fail
        go_roundw
        case rel => exact ⟨k + 1, by omega, by go_num, by rw [HT.out], HB2.out⟩
        case measure => simp [intOf]; omega
    · have hltz : ¬ (k : Int) < (ar.length : Int) := by omega
      have hkl : k = ar.length := by omega
      subst hkl
      rw [List.take_length]
      go_wp2_with fail
      go_ret
      exact ⟨rfl, hb⟩
set_option maxHeartbeats 400000 in
theorem clipM_any (ar : Ar) (aa : Option Addr) (ca pg : Nat) (row : Option Nat) (w0 w : World) (h : MR w0 pg row ar aa ca) (hl : ar.length ≤ 1000) :
    Calls Tryd.prog 54 #[.slice aa ar.length ca] w fun e w' => e = .returned (.slice aa ar.length ar.length) ∧ w' = w := by
  have hz : (ar.length : Int) ≤ 1000 := by omega
  rcases h with ⟨rfl, rfl, rfl⟩ | ⟨hc, b, o, rfl, _, _, _⟩
  · go_enter Tryd.func54, Tryd.ntmps54
    go_wp2_with fail
    go_ret
    exact ⟨rfl, rfl⟩
  · have hcz : (ar.length : Int) ≤ (ca : Int) := by omega
    go_enter Tryd.func54, Tryd.ntmps54
    go_wp2_with fail
    go_ret
    exact ⟨rfl, rfl⟩
end Go.Proofs.YthhbbhijpkoelaaDoor

/-
  The contracts of slices.Equal of ints and of strings, of graph.areEqual and of graph.Equal.
-/
namespace Go.Proofs.YthhbbhijpkoelaaDoor
open Go.RowKit Go.Shelf

end Go.Proofs.YthhbbhijpkoelaaDoor

/-
  The contracts of graph.areEqual and of graph.Equal: two graphs are one and the same.
-/
namespace Go.Proofs.YthhbbhijpkoelaaDoor
open Go.RowKit Go.Shelf

/-- two nodes' blocks -/
structure EB (w : World) (n m : Nd) (a1 a2 a3 a4 : Option Addr) (c1 c2 c3 c4 : Nat) (W : World) : Prop where
  x : NdAt W w.heap.size 0 n a1 c1 a2 c2
  y : NdAt W (w.heap.size + 1) 0 m a3 c3 a4 c4
  lt : w.heap.size + 1 < W.heap.size
  bl : Below w.heap.size w W
theorem EB.new (w : World) (n m : Nd) (a1 a2 a3 a4 : Option Addr) (c1 c2 c3 c4 : Nat) : EB w n m a1 a2 a3 a4 c1 c2 c3 c4 ((w.alloc (.cells #[.int .i64 n.kind, .int .i64 n.so, .slice a1 n.labs.length c1, .slice a2 n.to.length c2] 60)).alloc (.cells #[.int .i64 m.kind, .int .i64 m.so, .slice a3 m.labs.length c3, .slice a4 m.to.length c4] 60)) :=
  ⟨⟨by go_cell, by go_cell, by go_cell, by go_cell⟩, ⟨by go_cell, by go_cell, by go_cell, by go_cell⟩, by simp, by go_grown⟩
theorem EB.keep {w : World} {n m : Nd} {a1 a2 a3 a4 : Option Addr} {c1 c2 c3 c4 : Nat} {W W' : World} (h : EB w n m a1 a2 a3 a4 c1 c2 c3 c4 W) (hb : Below W.heap.size W W') : EB w n m a1 a2 a3 a4 c1 c2 c3 c4 W' :=
  ⟨h.x.keep hb (by have := h.lt; omega), h.y.keep hb h.lt, Nat.lt_of_lt_of_le h.lt hb.size, h.bl.trans (hb.mono h.bl.size)⟩
end Go.Proofs.YthhbbhijpkoelaaDoor

/-
  append of a meaning; what graph.lay is promised to do.
-/
namespace Go.Proofs.YthhbbhijpkoelaaDoor
open Go.RowKit Go.Shelf

theorem infoMe : (Tryd.prog.info? 111).map (fun i => (i.zero, i.size, i.bytes)) = some (some (.agg #[.string ⟨#[]⟩, .int .i64 0]), 2, 24) := by kernel_rfl
def mCs (ar : Ar) : List Value := ar.flatMap fun p => [Value.string p.1, .int .i64 (p.2 : Int)]
theorem mCs_len (ar : Ar) : (mCs ar).length = ar.length * 2 := by
  induction ar with
  | nil => rfl
  | cons p ar ih =>
    have e : mCs (p :: ar) = [Value.string p.1, .int .i64 (p.2 : Int)] ++ mCs ar := rfl
    rw [e, List.length_append, ih]
    simp
    omega
theorem mCs_at : ∀ (ar : Ar) (i : Nat) (h : i < ar.length), (mCs ar)[i * 2]? = some (.string ar[i].1) ∧ (mCs ar)[i * 2 + 1]? = some (.int .i64 (ar[i].2 : Int))
  | [], i, h => by simp at h
  | p :: ar, 0, _ => ⟨rfl, rfl⟩
  | p :: ar, i + 1, h => by
    have e : mCs (p :: ar) = [Value.string p.1, .int .i64 (p.2 : Int)] ++ mCs ar := rfl
    have ih := mCs_at ar i (by simpa using h)
    have h2 : ∀ j, ([Value.string p.1, .int .i64 (p.2 : Int)] ++ mCs ar)[j + 2]? = (mCs ar)[j]? := fun j => by rw [List.getElem?_append_right (by simp)]; rfl
    rw [e, show (i + 1) * 2 = i * 2 + 2 by omega, h2, show i * 2 + 2 + 1 = (i * 2 + 1) + 2 by omega, h2]
    exact ⟨ih.1, ih.2⟩
theorem mCs_snoc (ar : Ar) (p : ByteArray × Nat) : mCs (ar ++ [p]) = mCs ar ++ [.string p.1, .int .i64 (p.2 : Int)] := by simp [mCs]
theorem mCs_of {W : World} {b o : Nat} {ar : Ar} (hc : ∀ i (h : i < ar.length), W.cell? ⟨b, o + i * 2, none⟩ = some (.string ar[i].1) ∧ W.cell? ⟨b, o + i * 2 + 1, none⟩ = some (.int .i64 (ar[i].2 : Int))) : ∀ j v, (mCs ar)[j]? = some v → W.cell? ⟨b, o + j, none⟩ = some v := by
  intro j v hj
  have hl : j < ar.length * 2 := by
    rw [← mCs_len]
    exact (List.getElem?_eq_some_iff.1 hj).1
  obtain ⟨h0, h1⟩ := mCs_at ar (j / 2) (by omega)
  obtain ⟨q0, q1⟩ := hc (j / 2) (by omega)
  rcases Nat.mod_two_eq_zero_or_one j with hm | hm
  · have e : j = j / 2 * 2 := by omega
    rw [e] at hj ⊢
    rw [h0] at hj
    rw [q0]; exact hj
  · have e : j = j / 2 * 2 + 1 := by omega
    rw [e] at hj ⊢
    rw [h1] at hj
    rw [← Nat.add_assoc, q1]; exact hj
theorem run_append_m (w : World) (ty : TypeId) (ar : Ar) (aa : Option Addr) (pg : Nat) (row : Option Nat) (nm : ByteArray) (z g c : Nat) (h : MR w pg row ar aa ar.length) (hl : ar.length ≤ 1000) (hg0 : w.cell? ⟨g, 0, none⟩ = some (.string nm)) (hg1 : w.cell? ⟨g, 1, none⟩ = some (.int .i64 (z : Int))) (hpg : pg < w.heap.size) (hrow : ∀ k, row = some k → k < w.heap.size) :
    ∃ aa' ca' w', (Builtin.append_ #[107, 107] ty #[.slice aa ar.length ar.length, .slice (some ⟨g, 0, none⟩) 1 c]).run Tryd.prog w = .ok (.slice aa' (ar.length + 1) ca') w' ∧ MR w' pg row (ar ++ [(nm, z)]) aa' ca' ∧ Below w.heap.size w w' := by
  obtain ⟨i, hi, hz0, hz1, hz2⟩ := info_parts infoMe
  have hnews : ∀ j v, [Value.string nm, .int .i64 (z : Int)][j]? = some v → w.cell? ((⟨g, 0, none⟩ : Addr).add j) = some v := by
    intro j v hj
    match j, hj with
    | 0, hj => simp at hj; subst hj; rw [addj0]; exact hg0
    | 1, hj => simp at hj; subst hj; rw [addj0]; exact hg1
    | j + 2, hj => simp at hj
  have hfin : ∀ (cap : Nat) (cs : List Value) (rest : Array Value), cs = mCs (ar ++ [(nm, z)]) → ar.length + 1 ≤ cap → MR (w.drew.alloc (.cells (cs.toArray ++ rest) 111)) pg row (ar ++ [(nm, z)]) (some ⟨w.heap.size, 0, none⟩) cap := by
    intro cap cs rest hcs hcap
    have hcell : ∀ j v, (mCs (ar ++ [(nm, z)]))[j]? = some v → (w.drew.alloc (.cells (cs.toArray ++ rest) 111)).cell? ⟨w.heap.size, j, none⟩ = some v := by
      intro j v hj
      have e1 : (w.drew.alloc (.cells (cs.toArray ++ rest) 111)).cell? ⟨w.heap.size, j, none⟩ = (cs.toArray ++ rest)[j]? := World.cell?_alloc_at _ _ _ _ rfl
      have hjl := (List.getElem?_eq_some_iff.1 hj).1
      rw [e1, Array.getElem?_append_left (by simp [hcs]; exact hjl)]
      simp only [List.getElem?_toArray]
      rw [hcs]; exact hj
    refine .inr ⟨by simpa using hcap, w.heap.size, 0, rfl, by simp, by omega, fun e => by have := hrow _ e; omega, fun k hk => ?_⟩
    obtain ⟨h0, h1⟩ := mCs_at (ar ++ [(nm, z)]) k hk
    rw [Nat.zero_add]
    exact ⟨hcell _ _ h0, hcell _ _ h1⟩
  rcases h with ⟨rfl, rfl, _⟩ | ⟨_, b, o, rfl, _, _, _, hc⟩
  · have hr := run_append_nil (P := Tryd.prog) w 107 ty 111 i _ Tryd.underlying107 hi hz0 ⟨g, 0, none⟩ 1 c [.string nm, .int .i64 (z : Int)] (by rw [hz1]; rfl) hnews (by omega) (by omega) (by rw [hz2]; omega)
    refine ⟨_, _, _, hr, ?_, ((Below.refl _ _).drew).alloc (by simp) _⟩
    exact hfin _ [.string nm, .int .i64 (z : Int)] _ rfl (grownCap_ge _ _ _ _)
  · have hr := run_append_grow (P := Tryd.prog) w 107 ty 111 i _ Tryd.underlying107 hi hz0 ⟨b, o, none⟩ ar.length ar.length (mCs ar) (by rw [hz1]; exact mCs_len ar) (fun j v hj => by rw [addjo]; exact mCs_of hc j v hj) ⟨g, 0, none⟩ 1 c [.string nm, .int .i64 (z : Int)] (by rw [hz1]; rfl) hnews (by omega) (by omega) (growslice_fits (by omega) (by rw [hz2]; omega))
    refine ⟨_, _, _, hr, ?_, ((Below.refl _ _).drew).alloc (by simp) _⟩
    have := hfin (grownCap w (ar.length + 1) ar.length 111) (mCs (ar ++ [(nm, z)])) (Builtin.zeroCells (Value.agg #[.string ⟨#[]⟩, .int .i64 0]).cells (grownCap w (ar.length + 1) ar.length 111 - (ar.length + 1))) rfl (grownCap_ge _ _ _ _)
    rw [mCs_snoc] at this
    simpa using this
theorem step_append_m (w : World) {ops : Array Oper} {o : Oper} {a : Act} {K : Act → World → Prop} {Q : Exit → Act → World → Prop} {E : Prop} (hgd : o.guard = none) (s x : Operand)
    (ho : o.op = .call { callee := .builtin .append, args := #[s, x], argTypes := #[107, 107] })
    (ar : Ar) (aa : Option Addr) (pg : Nat) (row : Option Nat) (nm : ByteArray) (z g c : Nat) (hs : a.eval s = .slice aa ar.length ar.length) (hx : a.eval x = .slice (some ⟨g, 0, none⟩) 1 c)
    (h : MR w pg row ar aa ar.length) (hl : ar.length ≤ 1000) (hg0 : w.cell? ⟨g, 0, none⟩ = some (.string nm)) (hg1 : w.cell? ⟨g, 1, none⟩ = some (.int .i64 (z : Int))) (hpg : pg < w.heap.size) (hrow : ∀ k, row = some k → k < w.heap.size)
    (hK : ∀ aa' ca' w', MR w' pg row (ar ++ [(nm, z)]) aa' ca' → Below w.heap.size w w' → K (a.put o.dst (.slice aa' (ar.length + 1) ca')) w') :
    if Region.wanted o (yielded ops a.tmps) = true then Oper.wp Tryd.prog o a w K Q else E := by
  have hw : Region.wanted o (yielded ops a.tmps) = true := by simp [Region.wanted, hgd]
  rw [if_pos hw]
  obtain ⟨aa', ca', w', hr, h2, h3⟩ := run_append_m w o.type ar aa pg row nm z g c h hl hg0 hg1 hpg hrow
  unfold Oper.wp execOp
  simp only [ho, resolve, invoke, builtin, Sem.run_bind, Sem.run_pure, Result.andThen_ok, List.map_toArray, List.map_cons, List.map_nil, hs, hx, hr]
  exact hK aa' ca' w' h2 h3
/-- a row of nodes behind a pointer -/
structure PG (W : World) (pg : Nat) (u : Value) (toks : List TkN) : Prop where
  c : W.cell? ⟨pg, 0, none⟩ = some u
  f : W.frozen? ⟨pg, 0, none⟩ = false
  own : W.ownsRow (pg + 1) 60 4 u toks.length (ndCs toks)
  lt : pg < W.heap.size
theorem PG.keep {W W' : World} {pg : Nat} {u : Value} {toks : List TkN} (h : PG W pg u toks) (hb : Below W.heap.size W W') : PG W' pg u toks :=
  ⟨(hb.cell (p := ⟨pg, 0, none⟩) h.lt).trans h.c, (hb.frozen (p := ⟨pg, 0, none⟩) h.lt).trans h.f, own_belowG h.own hb, Nat.lt_of_lt_of_le h.lt hb.size⟩
/-- nodes that are laid: their labels are the type's, their To in blocks of which P holds -/
def TKL (W : World) (B : Nat) (P : Nat → Prop) (ts : List TkN) : Prop := ∀ t ∈ ts, LA W B t.1.labs t.2.1.1 ∧ NP W P (t.1.to.map fun t : Nat => Value.int .i64 (t : Int)) t.2.2.1
theorem TKL.keep {W W' : World} {B : Nat} {P Q : Nat → Prop} {ts : List TkN} (hb : Below B W W') (hc : ∀ b o, P b → W'.cell? ⟨b, o, none⟩ = W.cell? ⟨b, o, none⟩) (hq : ∀ b, P b → Q b) (h : TKL W B P ts) : TKL W' B Q ts := fun t ht => ⟨(h t ht).1.keep hb, (h t ht).2.keep hc hq⟩
/-- what lay leaves -/
def LYPost (t : Ty) (ar : Ar) (pg : Nat) (u : Value) (toks : List TkN) (B : Nat) (w : World) (e : Ending) (w' : World) : Prop :=
  e = .returned (.int .i64 ((layP t ar toks.length).1 : Int)) ∧ ∃ (new : List TkN) (u' : Value), new.map (·.1) = (layP t ar toks.length).2 ∧ PG w' pg u' (toks ++ new) ∧ TKL w' B (fun b => w.heap.size ≤ b ∧ b < w'.heap.size ∧ u'.ownBlock ≠ some b) new ∧ RF pg pg u.ownBlock w w' ∧ (u'.ownBlock = u.ownBlock ∨ ∀ k, u'.ownBlock = some k → w.heap.size ≤ k)
def LYSaid (d : Nat) : Prop := ∀ (t : Ty) (al : Option Addr) (cl : Nat) (ak : Option Addr) (ck : Nat) (ar : Ar) (aa : Option Addr) (ca pg : Nat) (u : Value) (toks : List TkN) (B : Nat) (w : World),
  TyBd t cl ck → LA w B t.labels al → KT w B d t.kids ak → wfT t → MR w pg u.ownBlock ar aa ca → PG w pg u toks → B ≤ pg → sizeT t + toks.length ≤ 900 → ar.length + sizeT t ≤ 900 →
  Calls Tryd.prog 41 #[.pointer (some ⟨pg, 0, none⟩), tyVal t al cl ak ck, .slice aa ar.length ca] w (LYPost t ar pg u toks B w)
end Go.Proofs.YthhbbhijpkoelaaDoor
