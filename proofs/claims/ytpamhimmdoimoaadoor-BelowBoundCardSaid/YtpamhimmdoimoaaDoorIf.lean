/-
  A draft in its box while labels, too, are put into it.
-/
import Derived.Test.YtpamhimmdoimoaaDoorZh
import Derived.Test.YtpamhimmdoimoaaDoorZc
import Derived.Test.YtpamhimmdoimoaaDoorHq
namespace Go.Proofs.YtpamhimmdoimoaaDoor
open Go.RowKit Go.Shelf

/-- a row beside it has grown -/
theorem DB.grow {w0 w1 : World} {db mb bx : Nat} {ca cb ud u0 : Value} {X : Nat → Value} {ps : List Pz} {tos : List Nat} {u v : Value} {V w7 : World} {ob : Obj} {row : Option Nat} (D : DB w0 w1 db mb bx ca cb ud u0 X ps tos u v V) (hg : (V.alloc ob).grownBy w7 row) (h1 : ∀ j, row = some j → w1.heap.size ≤ j) (hu : ∀ j, row = some j → u.ownBlock ≠ some j) (hv : ∀ j, row = some j → v.ownBlock ≠ some j) : DB w0 w1 db mb bx ca cb ud u0 X ps tos u v w7 := by
  have hsz : (V.alloc ob).heap.size = V.heap.size + 1 := by simp
  have hbx : bx < V.heap.size := Nat.lt_of_lt_of_le D.b1 D.sz
  have hk : ∀ b, b < V.heap.size → some b ≠ row → w7.heap[b]? = V.heap[b]? := fun b hb hn => (hg.block b (by omega) hn).trans (heap_alloc_old V ob hb)
  have hvb : ∀ b, b < w1.heap.size → some b ≠ row := fun b hb e => by have := h1 b e.symm; omega
  have hS := hk bx hbx (hvb bx D.b1)
  have hs7 := hg.size
  refine ⟨?_, ?_, (World.cell?_of_block (a := ⟨bx, 3, none⟩) hS).trans D.c3, fun j hj => (World.frozen?_of_block (a := ⟨bx, j, none⟩) hS).trans (D.f3 j hj), fun j hj h3 => (World.cell?_of_block (a := ⟨bx, j, none⟩) hS).trans (D.oc j hj h3), fun b h1' h2 h3 h4 h5 => ?_, D.uf, D.u1, D.vu, D.b1, D.bz, by have := D.sz; omega, D.bd, D.bm, D.bu, D.d1, D.m1, hg.os.trans D.os_, hg.tape.trans D.tp_, hg.output.trans D.ot_⟩
  · refine D.z.other hg.os hg.tape hg.output (by omega) fun b hb hor => hk b hb fun e => ?_
    have := h1 b e.symm
    rcases hor with q | q | q | q
    · have := D.bz; have := D.b1; omega
    · have := D.d1; omega
    · have := D.m1; omega
    · exact hu b e.symm q
  · refine ⟨D.own.1, D.own.2.imp id fun ⟨g, c, cur, e1, hb', hc, r⟩ => ⟨g, c, cur, e1, hb', ?_, r⟩⟩
    rw [hk g (Array.getElem?_eq_some_iff.1 hc).1 (fun e => hv g e.symm (by rw [e1]; rfl))]
    exact hc
  · rw [hk b (Nat.lt_of_lt_of_le h1' D.sz) (hvb b h1')]
    exact D.fr b h1' h2 h3 h4 h5
/-- another cell of the draft is stored -/
theorem DB.setX {w0 w1 : World} {db mb bx : Nat} {ca cb ud u0 : Value} {X X' : Nat → Value} {ps : List Pz} {tos : List Nat} {u v : Value} {V : World} (D : DB w0 w1 db mb bx ca cb ud u0 X ps tos u v V) (i : Nat) (x : Value) (hi : i < 6) (h3 : i ≠ 3) (hX : ∀ j, j < 6 → j ≠ 3 → X' j = if j = i then x else X j) : DB w0 w1 db mb bx ca cb ud u0 X' ps tos u v (V.setCell ⟨bx, i, none⟩ x) := by
  have hset : ∀ b, b ≠ bx → (V.setCell ⟨bx, i, none⟩ x).heap[b]? = V.heap[b]? := fun b hb => Below.heap_setCell _ _ _ b hb
  have hB := (Below.refl bx V).setCell (p := ⟨bx, i, none⟩) (Nat.le_refl _) x
  refine ⟨?_, ?_, (World.cell?_setCell_other _ _ _ _ (by intro e; injection e with _ e; exact h3 e)).trans D.c3, fun j hj => (World.frozen?_setCell _ _ _ _).trans (D.f3 j hj), fun j hj hj3 => ?_, fun b h1 h2 h3 h4 h5 => ?_, D.uf, D.u1, D.vu, D.b1, D.bz, by have := D.sz; have := hB.size; omega, D.bd, D.bm, D.bu, D.d1, D.m1, hB.os.trans D.os_, hB.tape.trans D.tp_, hB.output.trans D.ot_⟩
  · refine D.z.other hB.os hB.tape hB.output hB.size fun b hb hor => hset b ?_
    rintro rfl
    rcases hor with q | q | q | q
    · have := D.bz; omega
    · exact D.bd q
    · exact D.bm q
    · exact D.ubx q
  · refine ⟨D.own.1, D.own.2.imp id fun ⟨g, c, cur, e1, hb', hc, r⟩ => ⟨g, c, cur, e1, hb', ?_, r⟩⟩
    rw [hset g (by have := D.b1; omega)]
    exact hc
  · rw [hX j hj hj3]
    by_cases e : j = i
    · subst e
      rw [if_pos rfl]
      exact World.cell?_setCell_same _ _ _ (D.oc j hj hj3)
    · rw [if_neg e, World.cell?_setCell_other _ _ _ _ (by intro q; injection q with _ q; exact e q.symm)]
      exact D.oc j hj hj3
  · rw [hset b h4]
    exact D.fr b h1 h2 h3 h4 h5
def dX (kd so : Int) (lv : Value) (sp : Int) (j : Nat) : Value := if j = 0 then .int .i64 kd else if j = 1 then .int .i64 so else if j = 2 then lv else if j = 4 then .int .i64 sp else .slice none 0 0
/-- a draft with the row lv of its labels -/
structure DL (w0 w1 : World) (db mb bx : Nat) (ca cb ud u0 : Value) (kd so sp : Int) (ps : List Pz) (tos : List Nat) (ls : List ByteArray) (u v lv : Value) (W : World) : Prop where
  d : DB w0 w1 db mb bx ca cb ud u0 (dX kd so lv sp) ps tos u v W
  lo : W.ownsRow w1.heap.size 9 1 lv ls.length (ls.map Value.string)
  lu : ∀ j, lv.ownBlock = some j → u.ownBlock ≠ some j
  lw : ∀ j, lv.ownBlock = some j → v.ownBlock ≠ some j
theorem DL.kept {w0 w1 : World} {db mb bx : Nat} {ca cb ud u0 : Value} {kd so sp : Int} {ps : List Pz} {tos : List Nat} {ls : List ByteArray} {u v lv : Value} {W W' : World} (D : DL w0 w1 db mb bx ca cb ud u0 kd so sp ps tos ls u v lv W) (hb : Below W.heap.size W W') : DL w0 w1 db mb bx ca cb ud u0 kd so sp ps tos ls u v lv W' :=
  ⟨D.d.kept hb, own_belowG D.lo hb, D.lu, D.lw⟩
theorem DL.num {w0 w1 : World} {db mb bx : Nat} {ca cb ud u0 : Value} {kd so sp : Int} {ps ps' : List Pz} {tos : List Nat} {ls : List ByteArray} {u u' v lv : Value} {W W' : World} (D : DL w0 w1 db mb bx ca cb ud u0 kd so sp ps tos ls u v lv W) (hz : ZW w0 db mb ca cb ud ps' u' W') (hr : RF mb db u.ownBlock W W') (hf : u'.ownBlock = u.ownBlock ∨ ∀ j, u'.ownBlock = some j → W.heap.size ≤ j) : DL w0 w1 db mb bx ca cb ud u0 kd so sp ps' tos ls u' v lv W' := by
  refine ⟨D.d.num hz hr hf, ?_, fun j hj e => ?_, D.lw⟩
  · refine ⟨D.lo.1, D.lo.2.imp id fun ⟨g, c, cur, e1, hb', hc, r⟩ => ⟨g, c, cur, e1, hb', ?_, r⟩⟩
    have hg := (Array.getElem?_eq_some_iff.1 hc).1
    rw [hr.block g hg (by have := D.d.m1; omega) (by have := D.d.d1; omega) (fun e => D.lu g (by rw [e1]; rfl) e.symm)]
    exact hc
  · rcases hf with q | q
    · exact D.lu j hj (q ▸ e)
    · have := q j e; have := (D.lo.lt j hj).2; omega
theorem DL.put {w0 w1 : World} {db mb bx : Nat} {ca cb ud u0 : Value} {kd so sp : Int} {ps : List Pz} {tos : List Nat} {ls : List ByteArray} {u v lv v7 : Value} {V w7 : World} {ob : Obj} {x : Nat} (D : DL w0 w1 db mb bx ca cb ud u0 kd so sp ps tos ls u v lv V)
    (hg : (V.alloc ob).grownBy w7 v.ownBlock) (hO : w7.ownsRow w1.heap.size 3 1 v7 (tos.length + 1) (iC tos ++ [.int .i64 (x : Int)])) (hat : v7.ownBlock = v.ownBlock ∨ v7.ownBlock = some (V.alloc ob).heap.size) :
    DL w0 w1 db mb bx ca cb ud u0 kd so sp ps (tos ++ [x]) ls u v7 lv (w7.setCell ⟨bx, 3, none⟩ v7) := by
  have hsz : (V.alloc ob).heap.size = V.heap.size + 1 := by simp
  refine ⟨D.d.put hg hO hat, ?_, D.lu, fun j hj e => ?_⟩
  · refine ⟨D.lo.1, D.lo.2.imp id fun ⟨g, c, cur, e1, hb', hc, r⟩ => ⟨g, c, cur, e1, hb', ?_, r⟩⟩
    have hgl := (Array.getElem?_eq_some_iff.1 hc).1
    rw [Below.heap_setCell _ _ _ g (by show g ≠ bx; have := D.d.b1; omega), hg.block g (by omega) (fun e => D.lw g (by rw [e1]; rfl) e.symm), heap_alloc_old V ob hgl]
    exact hc
  · rcases hat with q | q
    · exact D.lw j hj (q ▸ e)
    · rw [q] at e; injection e with e; have := (D.lo.lt j hj).2; omega
/-- one label more -/
theorem DL.putL {w0 w1 : World} {db mb bx : Nat} {ca cb ud u0 : Value} {kd so sp : Int} {ps : List Pz} {tos : List Nat} {ls : List ByteArray} {u v lv v7 : Value} {V w7 : World} {ob : Obj} {l : ByteArray} (D : DL w0 w1 db mb bx ca cb ud u0 kd so sp ps tos ls u v lv V)
    (hg : (V.alloc ob).grownBy w7 lv.ownBlock) (hO : w7.ownsRow w1.heap.size 9 1 v7 (ls.length + 1) (ls.map Value.string ++ [.string l])) (hat : v7.ownBlock = lv.ownBlock ∨ v7.ownBlock = some (V.alloc ob).heap.size) :
    DL w0 w1 db mb bx ca cb ud u0 kd so sp ps tos (ls ++ [l]) u v v7 (w7.setCell ⟨bx, 2, none⟩ v7) := by
  have hsz : (V.alloc ob).heap.size = V.heap.size + 1 := by simp
  have hG := D.d.grow hg (fun j hj => (D.lo.lt j hj).1) D.lu D.lw
  refine ⟨hG.setX 2 v7 (by omega) (by omega) fun j hj h3 => ?_, ?_, fun j hj e => ?_, fun j hj e => ?_⟩
  · match j, hj, h3 with
    | 0, _, _ => rfl
    | 1, _, _ => rfl
    | 2, _, _ => rfl
    | 4, _, _ => rfl
    | 5, _, _ => rfl
  · rw [List.length_append, List.map_append]
    refine ⟨hO.1, hO.2.imp id fun ⟨g, c, cur, e1, hb', hc, r⟩ => ⟨g, c, cur, e1, hb', ?_, r⟩⟩
    rw [Below.heap_setCell _ _ _ g (by show g ≠ bx; have := D.d.b1; omega)]
    exact hc
  · rcases hat with q | q
    · exact D.lu j (q ▸ hj) e
    · rw [q] at hj; injection hj with hj; have := (D.d.z.own.lt j e).2; omega
  · rcases hat with q | q
    · exact D.lw j (q ▸ hj) e
    · rw [q] at hj; injection hj with hj; have := (D.d.own.lt j e).2; omega
theorem DL.spare {w0 w1 : World} {db mb bx : Nat} {ca cb ud u0 : Value} {kd so sp : Int} {ps : List Pz} {tos : List Nat} {ls : List ByteArray} {u v lv : Value} {V : World} (D : DL w0 w1 db mb bx ca cb ud u0 kd so sp ps tos ls u v lv V) (z : Int) : DL w0 w1 db mb bx ca cb ud u0 kd so z ps tos ls u v lv (V.setCell ⟨bx, 4, none⟩ (.int .i64 z)) := by
  refine ⟨D.d.setX 4 (.int .i64 z) (by omega) (by omega) fun j hj h3 => ?_, ?_, D.lu, D.lw⟩
  · match j, hj, h3 with
    | 0, _, _ => rfl
    | 1, _, _ => rfl
    | 2, _, _ => rfl
    | 4, _, _ => rfl
    | 5, _, _ => rfl
  · refine ⟨D.lo.1, D.lo.2.imp id fun ⟨g, c, cur, e1, hb', hc, r⟩ => ⟨g, c, cur, e1, hb', ?_, r⟩⟩
    rw [Below.heap_setCell _ _ _ g (by show g ≠ bx; have := D.d.b1; omega)]
    exact hc
theorem DL.frz {w0 w1 : World} {db mb bx : Nat} {ca cb ud u0 : Value} {kd so sp : Int} {ps : List Pz} {tos : List Nat} {ls : List ByteArray} {u v lv : Value} {V w7 : World} {ob : Obj} (D : DL w0 w1 db mb bx ca cb ud u0 kd so sp ps tos ls u v lv V) (hg : (V.alloc ob).grownBy w7 lv.ownBlock) : w7.frozen? ⟨bx, 2, none⟩ = false := (D.d.grow hg (fun j hj => (D.lo.lt j hj).1) D.lu D.lw).f3 2 (by omega)
theorem DL.lrow {w0 w1 : World} {db mb bx : Nat} {ca cb ud u0 : Value} {kd so sp : Int} {ps : List Pz} {tos : List Nat} {ls : List ByteArray} {u v lv : Value} {W : World} (D : DL w0 w1 db mb bx ca cb ud u0 kd so sp ps tos ls u v lv W) : ∃ a c, lv = .slice a ls.length c ∧ LQ W (fun b => w1.heap.size ≤ b ∧ b < W.heap.size ∧ u.ownBlock ≠ some b) ls a := by
  have hlu := D.lu
  rcases own_cells D.lo with ⟨rfl, h0, _⟩ | ⟨g, cap, rfl, hgB, hg, hc⟩
  · exact ⟨none, 0, by rw [h0], .inl (List.length_eq_zero_iff.1 h0)⟩
  · refine ⟨_, _, rfl, .inr ⟨g, 0, rfl, ⟨hgB, hg, hlu g rfl⟩, fun i hi => ?_⟩⟩
    rw [Nat.zero_add]
    exact hc i _ (by rw [List.getElem?_map, List.getElem?_eq_getElem hi]; rfl)
end Go.Proofs.YtpamhimmdoimoaaDoor
/-
  The contracts of slices.Index and slices.ContainsFunc of texts, of below.hasAll and below.failsItself.
-/
namespace Go.Proofs.YtpamhimmdoimoaaDoor
open Go.RowKit Go.Shelf

theorem idxB_take {ls : List ByteArray} {l : ByteArray} {k : Nat} (hk : k < ls.length) (h : hasN (ls.take k) l = false) (e : ls[k] = l) : idxB ls l = k := by
  unfold idxB
  rw [List.findIdx_eq hk]
  refine ⟨by simpa using e, fun j hj => ?_⟩
  cases hq : decide (ls[j] = l) with
  | false => rfl
  | true =>
    have : ls[j] = l := by simpa using hq
    have hm : l ∈ ls.take k := by
      rw [List.mem_take_iff_getElem]
      exact ⟨j, by omega, this⟩
    have := (hasN_iff _ l).2 hm
    rw [this] at h; cases h
theorem hasN_take {ls : List ByteArray} {l : ByteArray} {k : Nat} (hk : k < ls.length) (h : hasN (ls.take k) l = false) (e : ¬ ls[k] = l) : hasN (ls.take (k + 1)) l = false := by
  rw [List.take_succ_eq_append_getElem hk]
  cases hq : hasN (ls.take k ++ [ls[k]]) l with
  | false => rfl
  | true =>
    rcases List.mem_append.1 ((hasN_iff _ l).1 hq) with hm | hm
    · rw [(hasN_iff _ l).2 hm] at h; cases h
    · exact absurd (List.mem_singleton.1 hm).symm e
/-- what slices.Index answers -/
def idxZ (ls : List ByteArray) (l : ByteArray) : Int := if hasN ls l = true then (idxB ls l : Int) else -1
set_option maxRecDepth 100000 in
set_option maxHeartbeats 2000000 in
theorem index_any (ls : List ByteArray) (x : ByteArray) (al : Option Addr) (cl B : Nat) (w : World) (h : LA w B ls al) (hl : ls.length ≤ 1000) :
    Calls Tryd.prog 54 #[.slice al ls.length cl, .string x] w fun e w' => e = .returned (.int .i64 (idxZ ls x)) ∧ w' = w := by
  have hlz : (ls.length : Int) ≤ 1000 := by omega
  go_enter Tryd.func54, Tryd.ntmps54
  go_wp2_with fail
  go_loopw [8] (fun i wr => ∃ k : Nat, k ≤ ls.length ∧ i = .int .i64 (k : Int) ∧ hasN (ls.take k) x = false ∧ wr = w) (fun i _ => ls.length - (intOf i).toNat)
  case atStart => exact ⟨0, Nat.zero_le _, rfl, rfl, rfl⟩
  case round =>
    obtain ⟨k, hk, rfl, hn, rfl⟩ := hrel
    by_cases hlt : k < ls.length
    · have hltz : (k : Int) < (ls.length : Int) := by omega
      obtain ⟨b, o, rfl, hbl, hc⟩ := h.resolve_left (fun q => by have := congrArg List.length q; simp at this; rw [this] at hlt; simp at hlt)
      have d0 := hc k (by simpa using hlt)
      rw [List.getElem_map] at d0
      by_cases he : ls[k] = x
      · have heb : (x.toList == ls[k].toList) = true := by rw [he]; simp
        have HI := hideK (show idxZ ls x = (k : Int) from by
          unfold idxZ
          rw [if_pos ((hasN_iff _ _).2 (by rw [← he]; exact List.getElem_mem hlt)), idxB_take hlt hn he])
        clear he hc hn
        generalize ls[k] = y at *
        go_wp2_with fail
        go_ret
        exact ⟨by rw [HI.out]; rfl, rfl⟩
      · have heb : (x.toList == ls[k].toList) = false := by rw [ba_beq]; simpa using fun q => he q.symm
        have HN := hideK (hasN_take hlt hn he)
        clear he hc hn
        generalize ls[k] = y at *
        go_wp2_with fail
        go_roundw
        case rel => exact ⟨k + 1, by omega, by go_num, HN.out, by first | rfl | trivial⟩
        case measure => simp [intOf]; omega
    · have hltz : ¬ (k : Int) < (ls.length : Int) := by omega
      have hkl : k = ls.length := by omega
      subst hkl
      rw [List.take_length] at hn
      have HI := hideK (show idxZ ls x = -1 from by unfold idxZ; rw [if_neg (by rw [hn]; simp)])
      clear hn
      go_wp2_with fail
      go_ret
      exact ⟨by rw [HI.out]; rfl, rfl⟩
theorem containsL_any (ns : List ByteArray) (x : ByteArray) (aa : Option Addr) (ca B : Nat) (w : World) (h : LA w B ns aa) (hl : ns.length ≤ 1000) :
    Calls Tryd.prog 32 #[.slice aa ns.length ca, .string x] w fun e w' => e = .returned (.bool (hasN ns x)) ∧ w' = w := by
  rcases h with h | ⟨b, o, rfl, _, hc⟩
  · have : ns = [] := by simpa using h
    subst this
    refine (Any.slices_Contains_string_empty Tryd.lays110 aa ca x w).mono fun e w' ⟨h1, h2⟩ => ⟨?_, h2⟩
    rw [h1]; rfl
  · refine (Any.slices_Contains_string Tryd.lays110 b o ns.length ca ns x w (by simp) (by omega) ?_).mono fun e w' ⟨h1, h2⟩ => ⟨?_, h2⟩
    · intro j hj
      rw [hc j (by simpa using hj)]
      simp [List.getD_eq_getElem?_getD, hj]
    · rw [h1]
      congr 2
      rw [List.take_of_length_le (by simp)]
      rw [Bool.eq_iff_iff, Lib.containsS_iff, hasN_iff]
set_option maxRecDepth 100000 in
set_option maxHeartbeats 2000000 in
/-- the closure of below.hasAll -/
theorem hasAll1_any (x : ByteArray) (ns : List ByteArray) (aa : Option Addr) (ca B pb : Nat) (w : World) (h : LA w B ns aa) (hl : ns.length ≤ 1000) (hp : w.cell? ⟨pb, 0, none⟩ = some (.slice aa ns.length ca)) :
    Calls Tryd.prog 65 #[.string x, .pointer (some ⟨pb, 0, none⟩)] w fun e w' => e = .returned (.bool (!hasN ns x)) ∧ w' = w := by
  have c := containsL_any ns x aa ca B w h hl
  generalize hasN ns x = q at *
  clear h
  go_enter Tryd.func65, Tryd.ntmps65
  go_wp2_with fail
  refine c.mono ?_
  rintro e w1 ⟨rfl, rfl⟩
  go_wp2_with fail
  go_ret
  exact ⟨rfl, rfl⟩
set_option maxRecDepth 100000 in
set_option maxHeartbeats 2000000 in
theorem indexHas_any (ls ns : List ByteArray) (al : Option Addr) (cl : Nat) (aa : Option Addr) (ca B pb : Nat) (w : World) (hL : LA w B ls al) (h : LA w B ns aa) (hl : ls.length ≤ 1000) (hl2 : ns.length ≤ 1000) (hp : w.cell? ⟨pb, 0, none⟩ = some (.slice aa ns.length ca)) :
    Calls Tryd.prog 78 #[.slice al ls.length cl, .func (.func 65) #[] #[.pointer (some ⟨pb, 0, none⟩)]] w fun e w' => (∃ z : Int, e = .returned (.int .i64 z) ∧ (0 ≤ z ∨ z = -1) ∧ (z = -1 ↔ (ls.all fun l => hasN ns l) = true)) ∧ w' = w := by
  have hlz : (ls.length : Int) ≤ 1000 := by omega
  go_enter Tryd.func78, Tryd.ntmps78
  go_wp2_with fail
  go_loopw [8] (fun i wr => ∃ k : Nat, k ≤ ls.length ∧ i = .int .i64 (k : Int) ∧ ((ls.take k).all fun l => hasN ns l) = true ∧ wr = w) (fun i _ => ls.length - (intOf i).toNat)
  case atStart => exact ⟨0, Nat.zero_le _, rfl, rfl, rfl⟩
  case round =>
    obtain ⟨k, hk, rfl, hn, rfl⟩ := hrel
    by_cases hlt : k < ls.length
    · have hltz : (k : Int) < (ls.length : Int) := by omega
      obtain ⟨b, o, rfl, hbl, hc⟩ := hL.resolve_left (fun q => by have := congrArg List.length q; simp at this; rw [this] at hlt; simp at hlt)
      have d0 := hc k (by simpa using hlt)
      rw [List.getElem_map] at d0
      have c := hasAll1_any ls[k] ns aa ca B pb _ h hl2 hp
      cases hq : hasN ns ls[k] with
      | true =>
        rw [hq] at c
        have HN := hideK (show ((ls.take (k + 1)).all fun l => hasN ns l) = true from by
          rw [List.take_succ_eq_append_getElem hlt, List.all_append, hn]; simp [hq])
        clear hc hn hq h
        generalize ls[k] = y at *
        go_wp2_with fail
        refine c.mono ?_
        rintro e w1 ⟨rfl, rfl⟩
        go_wp2_with fail
        go_roundw
        case rel => exact ⟨k + 1, by omega, by go_num, HN.out, by first | rfl | trivial⟩
        case measure => simp [intOf]; omega
      | false =>
        rw [hq] at c
        have HN := hideK (show ¬ (ls.all fun l => hasN ns l) = true from fun q => by
          rw [List.all_eq_true] at q
          have := q _ (List.getElem_mem hlt)
          rw [hq] at this; cases this)
        clear hc hn hq h
        generalize ls[k] = y at *
        go_wp2_with fail
        refine c.mono ?_
        rintro e w1 ⟨rfl, rfl⟩
        go_wp2_with fail
        go_ret
        exact ⟨⟨_, rfl, .inl (by omega), ⟨fun q => by omega, fun q => absurd q HN.out⟩⟩, rfl⟩
    · have hltz : ¬ (k : Int) < (ls.length : Int) := by omega
      have hkl : k = ls.length := by omega
      subst hkl
      rw [List.take_length] at hn
      have HN := hideK hn
      clear hn
      go_wp2_with fail
      go_ret
      exact ⟨⟨_, rfl, .inr rfl, ⟨fun _ => by first | exact HN.out | exact List.all_eq_true.1 HN.out, fun _ => rfl⟩⟩, rfl⟩
set_option maxRecDepth 100000 in
set_option maxHeartbeats 2000000 in
theorem containsHas_any (ls ns : List ByteArray) (al : Option Addr) (cl : Nat) (aa : Option Addr) (ca B pb : Nat) (w : World) (hL : LA w B ls al) (h : LA w B ns aa) (hl : ls.length ≤ 1000) (hl2 : ns.length ≤ 1000) (hp : w.cell? ⟨pb, 0, none⟩ = some (.slice aa ns.length ca)) :
    Calls Tryd.prog 64 #[.slice al ls.length cl, .func (.func 65) #[] #[.pointer (some ⟨pb, 0, none⟩)]] w fun e w' => e = .returned (.bool (!(ls.all fun l => hasN ns l))) ∧ w' = w := by
  have c := indexHas_any ls ns al cl aa ca B pb w hL h hl hl2 hp
  generalize (ls.all fun l => hasN ns l) = q at *
  clear h hL
  go_enter Tryd.func64, Tryd.ntmps64
  go_wp2_with fail
  refine c.mono ?_
  rintro e w1 ⟨⟨z, rfl, hz, hq⟩, rfl⟩
  cases q with
  | true =>
    obtain rfl : z = -1 := hq.2 rfl
    clear hz hq
    go_wp2_with fail
    go_ret
    exact ⟨rfl, rfl⟩
  | false =>
    have hz' : decide (z ≥ 0) = true := by
      rcases hz with hz | hz
      · simpa using hz
      · exact absurd (hq.1 hz) (by simp)
    have hz2 : (0 ≤ z) := by simpa using hz'
    clear hz hq
    go_wp2_with fail
    go_ret
    exact ⟨rfl, rfl⟩
set_option maxRecDepth 100000 in
set_option maxHeartbeats 2000000 in
theorem hasAll_any (ls ns : List ByteArray) (al : Option Addr) (cl : Nat) (aa : Option Addr) (ca B : Nat) (w : World) (hL : LA w B ls al) (h : LA w B ns aa) (hB : B ≤ w.heap.size) (hl : ls.length ≤ 1000) (hl2 : ns.length ≤ 1000) :
    Calls Tryd.prog 57 #[.slice aa ns.length ca, .slice al ls.length cl] w fun e w' => e = .returned (.bool (ls.all fun l => hasN ns l)) ∧ Below w.heap.size w w' := by
  have hA : Below w.heap.size w (w.alloc (.cells #[.slice aa ns.length ca] 22)) := (Below.refl _ _).alloc (Nat.le_refl _) _
  have c := containsHas_any ls ns al cl aa ca B w.heap.size (w.alloc (.cells #[.slice aa ns.length ca] 22)) (hL.keep (hA.mono hB)) (h.keep (hA.mono hB)) hl hl2 (by go_cell)
  generalize (ls.all fun l => hasN ns l) = q at *
  have HA := hideK hA
  clear h hL hA
  go_enter Tryd.func57, Tryd.ntmps57
  go_wp2_with fail
  refine c.mono ?_
  rintro e w1 ⟨rfl, rfl⟩
  go_wp2_with fail
  go_ret
  exact ⟨by cases q <;> rfl, HA.out⟩
end Go.Proofs.YtpamhimmdoimoaaDoor
