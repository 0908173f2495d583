/-
  The contract of the closure of graph.least: a node is reached; it answers the number of its class.
-/
import Derived.Test.YthhbbhijpkoelaaDoorHi
import Derived.Test.YthhbbhijpkoelaaDoorHc
namespace Go.Proofs.YthhbbhijpkoelaaDoor
open Go.RowKit Go.Shelf

/-- the number of a class, from 1 on; 0 of one that has none yet -/
def numR (c R : List Nat) (x : Nat) : Nat := if x ∈ R.map (clAt c) then (R.map (clAt c)).idxOf x + 1 else 0
/-- nothing has changed but blocks fb, rb and a row, and new memory -/
structure RF (fb rb : Nat) (row : Option Nat) (w w' : World) : Prop where
  os : w'.os = w.os
  tape : w'.tape = w.tape
  output : w'.output = w.output
  size : w.heap.size ≤ w'.heap.size
  block : ∀ k, k < w.heap.size → k ≠ fb → k ≠ rb → some k ≠ row → w'.heap[k]? = w.heap[k]?
theorem RF.below {fb rb : Nat} {row : Option Nat} {B : Nat} {w0 w w' : World} (h : RF fb rb row w w') (hb : Below B w0 w) (hB : B ≤ w.heap.size) (h1 : B ≤ fb) (h2 : B ≤ rb) (h3 : ∀ k, row = some k → B ≤ k) : Below B w0 w' :=
  hb.trans ⟨h.os, h.tape, h.output, h.size, fun k hk => h.block k (by omega) (by omega) (by omega) (fun e => by have := h3 k e.symm; omega)⟩
theorem RF.cell {fb rb : Nat} {row : Option Nat} {w w' : World} (h : RF fb rb row w w') {b o : Nat} (hb : b < w.heap.size) (h1 : b ≠ fb) (h2 : b ≠ rb) (h3 : some b ≠ row) : w'.cell? ⟨b, o, none⟩ = w.cell? ⟨b, o, none⟩ := World.cell?_of_block (a := ⟨b, o, none⟩) (h.block b hb h1 h2 h3)
theorem RF.frozen {fb rb : Nat} {row : Option Nat} {w w' : World} (h : RF fb rb row w w') {b o : Nat} (hb : b < w.heap.size) (h1 : b ≠ fb) (h2 : b ≠ rb) (h3 : some b ≠ row) : w'.frozen? ⟨b, o, none⟩ = w.frozen? ⟨b, o, none⟩ := World.frozen?_of_block (a := ⟨b, o, none⟩) (h.block b hb h1 h2 h3)
theorem RF.own {fb rb : Nat} {row : Option Nat} {w w' : World} (h : RF fb rb row w w') {base : Nat} {e : TypeId} {size : Nat} {v : Value} {n : Nat} {xs : List Value} (ho : w.ownsRow base e size v n xs) (h1 : fb < base) (h2 : rb < base) (h3 : v.ownBlock = none ∨ v.ownBlock ≠ row) : w'.ownsRow base e size v n xs := by
  refine ⟨ho.1, ?_⟩
  rcases ho.2 with hn | ⟨g, cap, cur, rfl, hb, hgg, rest⟩
  · exact .inl hn
  · refine .inr ⟨g, cap, cur, rfl, hb, ?_, rest⟩
    rw [h.block g (Array.getElem?_eq_some_iff.1 hgg).1 (by omega) (by omega) (by
      rcases h3 with h3 | h3
      · simp [Value.ownBlock] at h3
      · intro e; exact h3 (by rw [← e]; rfl))]
    exact hgg
/-- what the closure knows: the classes, their numbers, those that are reached -/
structure RC (W : World) (B2 cb nb rb fb n : Nat) (ac : Option Addr) (c R : List Nat) (u : Value) : Prop where
  hc : W.cell? ⟨cb, 0, none⟩ = some (.slice ac n n)
  hn : W.cell? ⟨nb, 0, none⟩ = some (.slice (some ⟨fb, 0, none⟩) n n)
  hr : W.cell? ⟨rb, 0, none⟩ = some u
  hrf : W.frozen? ⟨rb, 0, none⟩ = false
  cls : NI W cb c ac
  num : ∀ x, x < n → W.cell? ⟨fb, x, none⟩ = some (.int .i64 (numR c R x : Int))
  numf : ∀ x, W.frozen? ⟨fb, x, none⟩ = false
  own : W.ownsRow B2 3 1 u R.length (R.map fun t : Nat => Value.int .i64 (t : Int))
  o1 : cb < fb
  o2 : fb < nb
  o3 : nb < rb
  o4 : rb < B2
  o5 : B2 ≤ W.heap.size
  cl : c.length = n
theorem sliceH_own {W : World} {base : Nat} {e : TypeId} {size : Nat} {v : Value} {n : Nat} {xs : List Value} (h : W.ownsRow base e size v n xs) : ∃ a c, v = .slice a n c := by
  rcases h.2 with ⟨rfl, rfl⟩ | ⟨g, cap, cur, rfl, _⟩
  · exact ⟨_, _, rfl⟩
  · exact ⟨_, _, rfl⟩
theorem own_setB {W : World} {base : Nat} {e : TypeId} {size : Nat} {v : Value} {n : Nat} {xs : List Value} (h : W.ownsRow base e size v n xs) {b o : Nat} (hb : b < base) (x : Value) : (W.setCell ⟨b, o, none⟩ x).ownsRow base e size v n xs :=
  h.kept (grown_set W b o x) (by
    cases hq : v.ownBlock with
    | none => exact .inl rfl
    | some g => exact .inr (fun e => by injection e with e; have := (h.lt g hq).1; omega))
theorem infoIG : (Tryd.prog.info? 3).map (fun i => (i.zero, i.size, i.bytes)) = some (some (.int .i64 0), 1, 8) := by kernel_rfl
theorem num_add (c R : List Nat) (t x : Nat) (hn : clAt c t ∉ R.map (clAt c)) : numR c (R ++ [t]) x = if x = clAt c t then R.length + 1 else numR c R x := by
  unfold numR
  rw [List.map_append, List.map_cons, List.map_nil]
  by_cases hx : x = clAt c t
  · subst hx
    rw [if_pos rfl, if_pos (by simp), List.idxOf_append, if_neg hn]
    simp
  · rw [if_neg hx]
    by_cases hm : x ∈ R.map (clAt c)
    · rw [if_pos (List.mem_append_left _ hm), if_pos hm, List.idxOf_append, if_pos hm]
    · rw [if_neg hm, if_neg]
      intro h
      rcases List.mem_append.1 h with h | h
      · exact hm h
      · rw [List.mem_singleton] at h; exact hx h
theorem RC.put {w w7 : World} {B2 cb nb rb fb n : Nat} {ac : Option Addr} {c R : List Nat} {u v7 : Value} {t : Nat} {ob : Obj} (h : RC w B2 cb nb rb fb n ac c R u) (hx : clAt c t < n) (hm : ∀ x, numR c (R ++ [t]) x = if x = clAt c t then R.length + 1 else numR c R x)
    (hg : (w.alloc ob).grownBy w7 u.ownBlock) (hO : w7.ownsRow B2 3 1 v7 (R.length + 1) ((R.map fun t : Nat => Value.int .i64 (t : Int)) ++ [.int .i64 (t : Int)])) (hat : v7.ownBlock = u.ownBlock ∨ v7.ownBlock = some (w.alloc ob).heap.size) :
    RC ((w7.setCell ⟨rb, 0, none⟩ v7).setCell ⟨fb, clAt c t, none⟩ (.int .i64 ((R.length + 1 : Nat) : Int))) B2 cb nb rb fb n ac c (R ++ [t]) v7 ∧ RF fb rb u.ownBlock w ((w7.setCell ⟨rb, 0, none⟩ v7).setCell ⟨fb, clAt c t, none⟩ (.int .i64 ((R.length + 1 : Nat) : Int))) ∧ (v7.ownBlock = u.ownBlock ∨ ∀ k, v7.ownBlock = some k → w.heap.size ≤ k) := by
  have q1 := h.o1
  have q2 := h.o2
  have q3 := h.o3
  have q4 := h.o4
  have q5 := h.o5
  have hs : w.heap.size < w7.heap.size := by have := hg.size; simp at this; omega
  have hblk : ∀ b, b < w.heap.size → some b ≠ u.ownBlock → w7.heap[b]? = w.heap[b]? := fun b hb hn => (hg.block b (by simp; omega) hn).trans (heap_alloc_old w ob hb)
  have hlow : ∀ b, b < B2 → some b ≠ u.ownBlock := fun b hb e => by have := (h.own.lt b e.symm).1; omega
  have hc7 : ∀ b o, b < B2 → w7.cell? ⟨b, o, none⟩ = w.cell? ⟨b, o, none⟩ := fun b o hb => World.cell?_of_block (a := ⟨b, o, none⟩) (hblk b (by omega) (hlow b hb))
  have hf7 : ∀ b o, b < B2 → w7.frozen? ⟨b, o, none⟩ = w.frozen? ⟨b, o, none⟩ := fun b o hb => World.frozen?_of_block (a := ⟨b, o, none⟩) (hblk b (by omega) (hlow b hb))
  have hoth : ∀ b o, b < B2 → b ≠ rb → b ≠ fb → ((w7.setCell ⟨rb, 0, none⟩ v7).setCell ⟨fb, clAt c t, none⟩ (.int .i64 ((R.length + 1 : Nat) : Int))).cell? ⟨b, o, none⟩ = w.cell? ⟨b, o, none⟩ := fun b o hb h1 h2 =>
    ((World.cell?_setCell_other _ _ _ _ (by intro e; injection e with e; exact h2 e.symm)).trans (World.cell?_setCell_other _ _ _ _ (by intro e; injection e with e; exact h1 e.symm))).trans (hc7 b o hb)
  refine ⟨⟨(hoth cb 0 (by omega) (by omega) (by omega)).trans h.hc, (hoth nb 0 (by omega) (by omega) (by omega)).trans h.hn, ?_, ?_, ?_, fun x hxn => ?_, fun x => ?_, ?_, q1, q2, q3, q4, ?_, h.cl⟩, ?_, ?_⟩
  · rw [World.cell?_setCell_other _ _ _ _ (by intro e; injection e with e; omega)]
    exact World.cell?_setCell_same _ _ _ ((hc7 rb 0 q4).trans h.hr)
  · rw [World.frozen?_setCell, World.frozen?_setCell, hf7 rb 0 q4]; exact h.hrf
  · rcases h.cls with e | ⟨b, o, e, hb, hcc⟩
    · exact .inl e
    · exact .inr ⟨b, o, e, hb, fun i hi => (hoth b (o + i) (by omega) (by omega) (by omega)).trans (hcc i hi)⟩
  · rw [hm x]
    by_cases e : x = clAt c t
    · subst e
      rw [if_pos rfl]
      exact World.cell?_setCell_same _ _ _ ((World.cell?_setCell_other _ _ _ _ (by intro e; injection e with e; omega)).trans ((hc7 fb _ (by omega)).trans (h.num _ hx)))
    · rw [if_neg e, World.cell?_setCell_other _ _ _ _ (by intro q; injection q with _ q; exact e q.symm), World.cell?_setCell_other _ _ _ _ (by intro e; injection e with e; omega), hc7 fb x (by omega)]
      exact h.num x hxn
  · rw [World.frozen?_setCell, World.frozen?_setCell, hf7 fb x (by omega)]; exact h.numf x
  · have := own_setB (own_setB hO (b := rb) (o := 0) q4 v7) (b := fb) (o := clAt c t) (by omega) (.int .i64 ((R.length + 1 : Nat) : Int))
    simpa using this
  · simp; omega
  · refine ⟨hg.os, hg.tape, hg.output, by simp; omega, fun k hk h1 h2 h3 => ?_⟩
    rw [Below.heap_setCell _ _ _ k (fun e => h1 e), Below.heap_setCell _ _ _ k (fun e => h2 e)]
    exact hblk k hk h3
  · rcases hat with e | e
    · exact .inl e
    · exact .inr fun k hk => by rw [e] at hk; injection hk with hk; simp at hk; omega
set_option maxRecDepth 100000 in
set_option maxHeartbeats 4000000 in
theorem reach_any (B2 cb nb rb fb n : Nat) (ac : Option Addr) (c R : List Nat) (u : Value) (t : Nat) (w : World) (h : RC w B2 cb nb rb fb n ac c R u) (ht : t < n) (hx : clAt c t < n) (hR : R.length ≤ 1000) :
    Calls Tryd.prog 39 #[.int .i64 (t : Int), .pointer (some ⟨cb, 0, none⟩), .pointer (some ⟨nb, 0, none⟩), .pointer (some ⟨rb, 0, none⟩)] w fun e w' => e = .returned (.int .i64 (idxR c (addR c R t) t : Int)) ∧ ∃ u', RC w' B2 cb nb rb fb n ac c (addR c R t) u' ∧ RF fb rb u.ownBlock w w' ∧ (u'.ownBlock = u.ownBlock ∨ ∀ k, u'.ownBlock = some k → w.heap.size ≤ k) := by
  obtain ⟨i0, hi, hz0, hz1, hz2⟩ := info_parts infoIG
  have hcl := h.cl
  obtain ⟨ab, ao, rfl, hab, hac⟩ := h.cls.resolve_left (fun q => by have := congrArg List.length q; simp at this; rw [this] at hcl; simp at hcl; omega)
  have c1 := h.hc
  have c2 := h.hn
  have c3 := h.hr
  have d1 := hac t (by simp; omega)
  rw [List.getElem_map] at d1
  have ecl : c[t]'(by omega) = clAt c t := by unfold clAt; rw [List.getElem?_eq_getElem (by omega)]; rfl
  rw [ecl] at d1
  have d2 := h.num (clAt c t) hx
  have d3 := h.numf (clAt c t)
  have htz : (t : Int) < (n : Int) := by omega
  have hxz : ((clAt c t : Nat) : Int) < (n : Int) := by omega
  have H := hideK h
  have rf3 := h.hrf
  have q1 := h.o1
  have q2 := h.o2
  have q3 := h.o3
  have q4 := h.o4
  have q5 := h.o5
  clear h
  by_cases hm : clAt c t ∈ R.map (clAt c)
  · have eA : addR c R t = R := by unfold addR; rw [if_pos hm]
    have eN : numR c R (clAt c t) = idxR c R t + 1 := by unfold numR idxR; rw [if_pos hm]
    rw [eN] at d2
    rw [eA]
    have hb0 : (((idxR c R t + 1 : Nat) : Int) == 0) = false := by simp; omega
    have hlt : idxR c R t < 1000 := by have := idx_lt hm; omega
    generalize idxR c R t = y at *
    generalize clAt c t = x at *
    clear hac ecl eN eA hm
    go_enter Tryd.func39, Tryd.ntmps39
    go_wp2_with fail
    go_ret
    exact ⟨rfl, u, H.out, ⟨rfl, rfl, rfl, Nat.le_refl _, fun _ _ _ _ _ => rfl⟩, .inl rfl⟩
  · have eA : addR c R t = R ++ [t] := by unfold addR; rw [if_neg hm]
    have eN : numR c R (clAt c t) = 0 := by unfold numR; rw [if_neg hm]
    have eI : idxR c (R ++ [t]) t = R.length := by
      unfold idxR
      rw [List.map_append, List.idxOf_append, if_neg hm]
      simp
    rw [eN] at d2
    rw [eA, eI]
    have HNA := hideK (fun x => num_add c R t x hm)
    have HO := H.out.own
    have LR := hideK (lit_rowG 3 B2 w (.int .i64 (t : Int)) w.heap.size rfl q5)
    have OA := hideK (own_belowG HO ((Below.refl _ _).alloc (Nat.le_refl _) (.cells #[.int .i64 (t : Int)] 3)))
    have hub := hideK (own_baseG HO)
    have hsl := sliceH_own HO
    obtain ⟨ua, uc, rfl⟩ := hsl
    have HRC := hideK (fun w7 v7 ob hg hO hat => RC.put (w7 := w7) (v7 := v7) (ob := ob) H.out hx HNA.out hg hO hat)
    have nn1 : ¬ rb = nb := by omega
    have nn2 : ¬ nb = rb := by omega
    have nn3 : ¬ rb = fb := by omega
    have nn4 : ¬ fb = rb := by omega
    have nn5 : ¬ fb = nb := by omega
    have nn6 : ¬ nb = fb := by omega
    have hlow := hideK (fun (b : Nat) (hb : b < B2) (e : some b = (Value.slice ua R.length uc).ownBlock) => (show False from by have := (HO.lt b e.symm).1; omega))
    have al1 : (w.alloc (.cells #[.int .i64 (t : Int)] 3)).heap.size = w.heap.size + 1 := by simp
    clear hac ecl eN eA hm HO eI
    generalize clAt c t = x at *
    go_enter Tryd.func39, Tryd.ntmps39
    go_wp2_with (at_builtin; refine wpList_append_rows _ rfl (.tmp 16) (.tmp 18) 26 rfl B2 B2 3 i0 (.int .i64 0) 1 8 Tryd.underlying26 hi hz0 hz1 hz2 rfl (by decide) _ _ _ rfl OA.out _ _ _ rfl LR.out (by simp [Value.oneCell']) (by unfold maxLen; omega) (by omega) (by rw [al1]; omega) ?_; intro v7 w7 hO7 hg7 hat7; have hbk := fun (b o : Nat) (hb : b < B2) => (World.cell?_of_block (a := ⟨b, o, none⟩) (hg7.block b (by rw [al1]; omega) (fun e => hlow.out b hb e))).trans (World.cell?_of_block (a := ⟨b, o, none⟩) (heap_alloc_old w (.cells #[.int .i64 (t : Int)] 3) (by show b < w.heap.size; omega))); have hfk := fun (b o : Nat) (hb : b < B2) => (World.frozen?_of_block (a := ⟨b, o, none⟩) (hg7.block b (by rw [al1]; omega) (fun e => hlow.out b hb e))).trans (World.frozen?_of_block (a := ⟨b, o, none⟩) (heap_alloc_old w (.cells #[.int .i64 (t : Int)] 3) (by show b < w.heap.size; omega))); have e1 := (hbk rb 0 q4).trans c3; have e2 := (hbk nb 0 (by omega)).trans c2; have e3 := (hbk fb x (by omega)).trans d2; have e4 := (hfk rb 0 q4).trans rf3; have e5 := (hfk fb x (by omega)).trans d3; have HR7 := hideK (HRC.out w7 v7 _ hg7 hO7 hat7); obtain ⟨va, vc, rfl⟩ := sliceH_own hO7; clear hbk hfk hO7 hg7 hat7 HRC)
    go_ret
    exact ⟨rfl, _, HR7.out.1, HR7.out.2.1, HR7.out.2.2⟩
end Go.Proofs.YthhbbhijpkoelaaDoor
