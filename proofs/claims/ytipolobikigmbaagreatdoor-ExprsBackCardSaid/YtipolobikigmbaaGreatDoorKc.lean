/-
  append of a row that a call owns onto another one, nil or not: at a walk's step, and at a step of a region that draws its order.
-/
import Derived.Test.YtipolobikigmbaaGreatDoorProg
import Derived.WalkKit
import Derived.Deep.AppendLies
import Derived.Laws.AppendOwnNone
import Derived.Laws.OwnMore
import Derived.Ground.NamesProg
import Derived.Shelf.Sort.Plain
import Derived.Shelf.Slices.In.CompactS
import Derived.Shelf.Slices.In.SortNone
import Derived.Shelf.Slices.Turned
import Derived.Sort.EncStr
import Derived.Test.YtipolobikigmbaaGreatDoorKb
import Derived.Test.YtipolobikigmbaaGreatDoorXg
import Derived.Deep.DeepCutAuto
import Derived.Deep.RegionHeld3
namespace Go.Proofs.YtipolobikigmbaaGreatDoor
open Go.RowKit

/-- the cells of a row that is owned, where it lies -/
theorem own_cells {w : World} {base : Nat} {e : TypeId} {size : Nat} {u : Value} {m : Nat} {ys : List Value} (h : w.ownsRow base e size u m ys) :
    (u = .slice none 0 0 ∧ m = 0 ∧ ys = []) ∨ ∃ g cap, u = .slice (some ⟨g, 0, none⟩) m cap ∧ base ≤ g ∧ g < w.heap.size ∧ ∀ j y, ys[j]? = some y → w.cell? ⟨g, j, none⟩ = some y := by
  obtain ⟨hl, h | ⟨g, cap, cur, rfl, hb, hg, h1, h2, h3, h4⟩⟩ := h
  · obtain ⟨rfl, rfl⟩ := h
    exact .inl ⟨rfl, rfl, List.eq_nil_of_length_eq_zero (by simpa using hl)⟩
  · refine .inr ⟨g, cap, rfl, hb, ?_, fun j y hy => ?_⟩
    · rcases Nat.lt_or_ge g w.heap.size with hlt | hge
      · exact hlt
      · rw [Array.getElem?_eq_none hge] at hg; cases hg
    · have := cell_of_row w g j cur e (0, 0) hg
      rw [this, ← Array.getElem?_toList]
      rw [← h4] at hy
      rw [List.getElem?_take] at hy
      split at hy
      · exact hy
      · cases hy
theorem run_append_rows {P : Program} (w : World) (t ty e : TypeId) (base base2 : Nat) (i : TypeInfo) (z : Value) (size bytes : Nat) (ht : P.underlying t = some (.slice e)) (hi : P.info? e = some i) (hz : i.zero = some z)
    (hsize : i.size = size) (hby : i.bytes = bytes) (hzs : z.cells.size = size) (hsz : 0 < size)
    (v : Value) (n : Nat) (xs : List Value) (hown : w.ownsRow base e size v n xs) (u : Value) (m : Nat) (ys : List Value) (hu : w.ownsRow base2 e size u m ys)
    (h1 : ∀ y ∈ ys, y.oneCell' = true) (h63 : n + m ≤ maxLen) (hbytes : (n + m) * bytes ≤ 140737488355328) (hbase : base ≤ w.heap.size) :
    ∃ v' w', (Builtin.append_ #[t, t] ty #[v, u]).run P w = .ok v' w' ∧ w'.ownsRow base e size v' (n + m) (xs ++ ys) ∧ w.grownBy w' v.ownBlock ∧ (v'.ownBlock = v.ownBlock ∨ v'.ownBlock = some w.heap.size) := by
  rcases own_cells hu with ⟨rfl, rfl, rfl⟩ | ⟨g, cap, rfl, _, _, hc⟩
  · have hrun := run_append_owned_none (P := P) (w := w) base t ty e i size ht hi v n xs hown
    refine ⟨v, w, hrun, by simpa using hown, World.grownBy.refl _ _, .inl rfl⟩
  · obtain ⟨v', w', hr, h2, h3, _, h5⟩ := run_append_own_at (P := P) w base t ty e i z size bytes ht hi hz hsize hby hzs hsz v n xs hown ⟨g, 0, none⟩ m cap ys hu.1
      (fun j y hy => by
        have e : (⟨g, 0, none⟩ : Addr).add j = ⟨g, j, none⟩ := by unfold Addr.add; split <;> simp_all
        rw [e]; exact hc j y hy) h1 h63 hbytes hbase
    exact ⟨v', w', hr, h2, h3, h5⟩
theorem wp_append_rows {P : Program} (w : World) {o : Oper} {a : Act} {K : Act → World → Prop} {Q : Exit → Act → World → Prop} (s x : Operand) (t : TypeId)
    (ho : o.op = .call { callee := .builtin .append, args := #[s, x], argTypes := #[t, t] })
    (base base2 : Nat) (e : TypeId) (i : TypeInfo) (z : Value) (size bytes : Nat) (ht : P.underlying t = some (.slice e)) (hi : P.info? e = some i) (hz : i.zero = some z)
    (hsize : i.size = size) (hby : i.bytes = bytes) (hzs : z.cells.size = size) (hsz : 0 < size)
    (v : Value) (n : Nat) (xs : List Value) (hs : a.eval s = v) (hown : w.ownsRow base e size v n xs) (u : Value) (m : Nat) (ys : List Value) (hx : a.eval x = u) (hu : w.ownsRow base2 e size u m ys)
    (h1 : ∀ y ∈ ys, y.oneCell' = true) (h63 : n + m ≤ maxLen) (hbytes : (n + m) * bytes ≤ 140737488355328) (hbase : base ≤ w.heap.size)
    (h : ∀ v' w', w'.ownsRow base e size v' (n + m) (xs ++ ys) → w.grownBy w' v.ownBlock → (v'.ownBlock = v.ownBlock ∨ v'.ownBlock = some w.heap.size) → K (a.put o.dst v') w') : o.wp P a w K Q := by
  obtain ⟨v', w', hr, h2, h3, h4⟩ := run_append_rows (P := P) w t o.type e base base2 i z size bytes ht hi hz hsize hby hzs hsz v n xs hown u m ys hu h1 h63 hbytes hbase
  unfold Oper.wp execOp
  simp only [ho, resolve, invoke, builtin, Sem.run_bind, Sem.run_pure, Result.andThen_ok, List.map_toArray, List.map_cons, List.map_nil, hs, hx, hr]
  exact h v' w' h2 h3 h4
theorem wpList_append_rows {P : Program} (w : World) {ops : Array Oper} {rest : List Oper} {o : Oper} {a : Act} {Q : Exit → Act → World → Prop} (hgd : o.guard = none) (s x : Operand) (t : TypeId)
    (ho : o.op = .call { callee := .builtin .append, args := #[s, x], argTypes := #[t, t] })
    (base base2 : Nat) (e : TypeId) (i : TypeInfo) (z : Value) (size bytes : Nat) (ht : P.underlying t = some (.slice e)) (hi : P.info? e = some i) (hz : i.zero = some z)
    (hsize : i.size = size) (hby : i.bytes = bytes) (hzs : z.cells.size = size) (hsz : 0 < size)
    (v : Value) (n : Nat) (xs : List Value) (hs : a.eval s = v) (hown : w.ownsRow base e size v n xs) (u : Value) (m : Nat) (ys : List Value) (hx : a.eval x = u) (hu : w.ownsRow base2 e size u m ys)
    (h1 : ∀ y ∈ ys, y.oneCell' = true) (h63 : n + m ≤ maxLen) (hbytes : (n + m) * bytes ≤ 140737488355328) (hbase : base ≤ w.heap.size)
    (h : ∀ v' w', w'.ownsRow base e size v' (n + m) (xs ++ ys) → w.grownBy w' v.ownBlock → (v'.ownBlock = v.ownBlock ∨ v'.ownBlock = some w.heap.size) → wpList P ops Q rest (a.put o.dst v') w') : wpList P ops Q (o :: rest) a w :=
  wpList_plain hgd fun _ hK => wp_append_rows w s x t ho base base2 e i z size bytes ht hi hz hsize hby hzs hsz v n xs hs hown u m ys hx hu h1 h63 hbytes hbase fun v' w' h2 h3 h4 => hK _ _ (h v' w' h2 h3 h4)
theorem step_append_rows {P : Program} (w : World) {ops : Array Oper} {o : Oper} {a : Act} {K : Act → World → Prop} {Q : Exit → Act → World → Prop} {E : Prop} (hgd : o.guard = none) (s x : Operand) (t : TypeId)
    (ho : o.op = .call { callee := .builtin .append, args := #[s, x], argTypes := #[t, t] })
    (base base2 : Nat) (e : TypeId) (i : TypeInfo) (z : Value) (size bytes : Nat) (ht : P.underlying t = some (.slice e)) (hi : P.info? e = some i) (hz : i.zero = some z)
    (hsize : i.size = size) (hby : i.bytes = bytes) (hzs : z.cells.size = size) (hsz : 0 < size)
    (v : Value) (n : Nat) (xs : List Value) (hs : a.eval s = v) (hown : w.ownsRow base e size v n xs) (u : Value) (m : Nat) (ys : List Value) (hx : a.eval x = u) (hu : w.ownsRow base2 e size u m ys)
    (h1 : ∀ y ∈ ys, y.oneCell' = true) (h63 : n + m ≤ maxLen) (hbytes : (n + m) * bytes ≤ 140737488355328) (hbase : base ≤ w.heap.size)
    (h : ∀ v' w', w'.ownsRow base e size v' (n + m) (xs ++ ys) → w.grownBy w' v.ownBlock → (v'.ownBlock = v.ownBlock ∨ v'.ownBlock = some w.heap.size) → K (a.put o.dst v') w') :
    if Region.wanted o (yielded ops a.tmps) = true then Oper.wp P o a w K Q else E := by
  have hw : Region.wanted o (yielded ops a.tmps) = true := by simp [Region.wanted, hgd]
  rw [if_pos hw]
  exact wp_append_rows w s x t ho base base2 e i z size bytes ht hi hz hsize hby hzs hsz v n xs hs hown u m ys hx hu h1 h63 hbytes hbase h
end Go.Proofs.YtipolobikigmbaaGreatDoor
/-
  Contracts of the library, laid at this program in plain words. Conditions: none.
-/
namespace Go.Proofs
open Go.Shelf
def Tryz.lays110_ren : Go.Shelf.Ren := ⟨fun | 110 => 137 | 109 => 173 | n => n, fun | 31 => 53 | 9 => 9 | 4 => 4 | 3 => 3 | 0 => 0 | n => n, fun | n => n⟩
theorem Tryz.lays110 : Go.Proofs.Lays.n110 Tryz.prog Tryz.lays110_ren := {
  mixed := by kernel_rfl
  f109 := Tryz.func173.trans (congrArg some (by kernel_rfl))
  f110 := Tryz.func137.trans (congrArg some (by kernel_rfl))
  t0 := Tryz.underlying0
  a0 := Tryz.isAgg0
  z0 := Tryz.sizeOf0
  v0 := Tryz.zeroValue0
  t3 := Tryz.underlying3
  a3 := Tryz.isAgg3
  z3 := Tryz.sizeOf3
  v3 := Tryz.zeroValue3
  t4 := Tryz.underlying4
  a4 := Tryz.isAgg4
  z4 := Tryz.sizeOf4
  v4 := Tryz.zeroValue4
  t9 := Tryz.underlying9
  a9 := Tryz.isAgg9
  z9 := Tryz.sizeOf9
  v9 := Tryz.zeroValue9
  t31 := Tryz.underlying53
  a31 := Tryz.isAgg53
  z31 := Tryz.sizeOf53
  v31 := Tryz.zeroValue53 }
end Go.Proofs

/-
  The contract of slices.Contains of texts, for every row of them.
-/
namespace Go.Proofs.YtipolobikigmbaaGreatDoor
open Go.RowKit Go.Shelf Go.Sort

theorem cell_lt {w : World} {a : Addr} {v : Value} (h : w.cell? a = some v) : a.block < w.heap.size := by
  rcases Nat.lt_or_ge a.block w.heap.size with h' | h'
  · exact h'
  · simp [World.cell?, Array.getElem?_eq_none h'] at h
/-- slices.Contains of a row of texts -/
theorem containsS_any (ns : List (List UInt8)) (x : ByteArray) (v : Value) (base : Nat) (w : World) (h : w.ownsRow base 9 1 v ns.length (ns.map encStr)) (hl : ns.length ≤ 9223372036854775807) :
    Calls Tryz.prog 137 #[v, .string x] w fun e w' => e = .returned (.bool (decide (x.data.toList ∈ ns))) ∧ w' = w := by
  rcases own_cells h with ⟨rfl, h0, h1⟩ | ⟨g, cap, rfl, _, hg, hc⟩
  · have : ns = [] := List.eq_nil_of_length_eq_zero h0
    subst this
    refine (Any.slices_Contains_string_empty Tryz.lays110 none 0 x w).mono fun e w' ⟨h1, h2⟩ => ⟨?_, h2⟩
    rw [h1]; simp
  · have hcell : ∀ j, j < (ns.map fun l => (⟨l.toArray⟩ : ByteArray)).length → w.cell? ⟨g, 0 + j, none⟩ = some (.string ((ns.map fun l => (⟨l.toArray⟩ : ByteArray)).getD j ByteArray.empty)) := by
      intro j hj
      have hj' : j < ns.length := by simpa using hj
      rw [Nat.zero_add]
      refine hc j _ ?_
      rw [List.getElem?_map, List.getElem?_eq_getElem hj']
      simp [List.getD_eq_getElem?_getD, hj', encStr]
    refine (Any.slices_Contains_string Tryz.lays110 g 0 ns.length cap (ns.map fun l => (⟨l.toArray⟩ : ByteArray)) x w (by simp) hl hcell).mono fun e w' ⟨h1, h2⟩ => ⟨?_, h2⟩
    rw [h1]
    congr 2
    rw [List.take_of_length_le (by simp)]
    rw [Bool.eq_iff_iff, Lib.containsS_iff, decide_eq_true_eq, List.mem_map]
    constructor
    · rintro ⟨l, hl, rfl⟩; simpa using hl
    · intro hx; exact ⟨_, hx, by simp⟩
end Go.Proofs.YtipolobikigmbaaGreatDoor

/-
  The contracts of slices.Clip and slices.Contains of names, of append of a name, of types.checkParts and types.Check, for every type.
-/
namespace Go.Proofs.YtipolobikigmbaaGreatDoor
open Go.RowKit Go.Shelf

/-- nothing but block pb has changed, and new memory -/
abbrev FR (pb : Nat) (w w' : World) : Prop := w.grownBy w' (some pb)
theorem FR.of {pb : Nat} {w w' : World} (h : Below w.heap.size w w') : FR pb w w' := ⟨h.os, h.tape, h.output, h.size, fun k hk _ => h.block k hk⟩
theorem FR.trans {pb : Nat} {a b c : World} (h : FR pb a b) (k : FR pb b c) : FR pb a c :=
  ⟨k.os.trans h.os, k.tape.trans h.tape, k.output.trans h.output, Nat.le_trans h.size k.size, fun i hi hn => (k.block i (Nat.lt_of_lt_of_le hi h.size) hn).trans (h.block i hi hn)⟩
theorem FR.set {pb : Nat} {w : World} (v : Value) : FR pb w (w.setCell ⟨pb, 0, none⟩ v) :=
  ⟨rfl, rfl, rfl, by simp, fun k _ hn => Below.heap_setCell w _ v k (fun e => hn (by rw [e]))⟩
theorem FR.al {pb : Nat} {w : World} (o : Obj) : FR pb w (w.alloc o) := FR.of ((Below.refl _ _).alloc (Nat.le_refl _) o)
theorem FR.below {pb : Nat} {w w' : World} (h : FR pb w w') (hp : pb ≤ w.heap.size) : Below pb w w' :=
  ⟨h.os, h.tape, h.output, h.size, fun k hk => h.block k (by omega) (fun e => by injection e with e; omega)⟩
theorem FR.cellO {pb : Nat} {w w' : World} (h : FR pb w w') {b o : Nat} (hb : b < w.heap.size) (hn : b ≠ pb) : w'.cell? ⟨b, o, none⟩ = w.cell? ⟨b, o, none⟩ :=
  World.cell?_of_block (a := ⟨b, o, none⟩) (h.block b hb (fun e => hn (by injection e)))

/-- the names around lie in a block that is not pb -/
def AR (W : World) (pb : Nat) (ns : List ByteArray) (aa : Option Addr) (ca : Nat) : Prop :=
  (ns = [] ∧ aa = none ∧ ca = 0) ∨ (ns.length ≤ ca ∧ ∃ b o, aa = some ⟨b, o, none⟩ ∧ b < W.heap.size ∧ b ≠ pb ∧ ∀ i (h : i < ns.length), W.cell? ⟨b, o + i, none⟩ = some (.string ns[i]))
theorem AR.keep {W W' : World} {pb : Nat} {ns : List ByteArray} {aa : Option Addr} {ca : Nat} (h : AR W pb ns aa ca) (hf : FR pb W W') : AR W' pb ns aa ca :=
  h.imp id fun ⟨hc, b, o, e, hl, hn, hcell⟩ => ⟨hc, b, o, e, Nat.lt_of_lt_of_le hl hf.size, hn, fun i hi => (hf.cellO hl hn).trans (hcell i hi)⟩

theorem AR.clip {W : World} {pb : Nat} {ns : List ByteArray} {aa : Option Addr} {ca : Nat} (h : AR W pb ns aa ca) : AR W pb ns aa ns.length := by
  rcases h with ⟨rfl, rfl, _⟩ | ⟨_, h⟩
  · exact .inl ⟨rfl, rfl, rfl⟩
  · exact .inr ⟨Nat.le_refl _, h⟩
def hasN (ns : List ByteArray) (x : ByteArray) : Bool := ns.any (fun y => decide (y = x))
theorem hasN_iff (ns : List ByteArray) (x : ByteArray) : hasN ns x = true ↔ x ∈ ns := by
  unfold hasN
  rw [List.any_eq_true]
  constructor
  · rintro ⟨y, hy, e⟩; rw [decide_eq_true_eq] at e; rw [← e]; exact hy
  · intro h; exact ⟨x, h, by simp⟩
theorem containsA_any (ns : List ByteArray) (x : ByteArray) (aa : Option Addr) (ca pb : Nat) (w : World) (h : AR w pb ns aa ca) (hl : ns.length ≤ 60) :
    Calls Tryz.prog 137 #[.slice aa ns.length ca, .string x] w fun e w' => e = .returned (.bool (hasN ns x)) ∧ w' = w := by
  rcases h with ⟨rfl, rfl, rfl⟩ | ⟨_, b, o, rfl, _, _, hc⟩
  · refine (Any.slices_Contains_string_empty Tryz.lays110 none 0 x w).mono fun e w' ⟨h1, h2⟩ => ⟨?_, h2⟩
    rw [h1]; rfl
  · refine (Any.slices_Contains_string Tryz.lays110 b o ns.length ca ns x w (by simp) (by omega) ?_).mono fun e w' ⟨h1, h2⟩ => ⟨?_, h2⟩
    · intro j hj
      rw [hc j hj]
      simp [List.getD_eq_getElem?_getD, hj]
    · rw [h1]
      congr 2
      rw [List.take_of_length_le (by simp)]
      rw [Bool.eq_iff_iff, Lib.containsS_iff, hasN_iff]
set_option maxHeartbeats 400000 in
theorem clip_any (ns : List ByteArray) (aa : Option Addr) (ca pb : Nat) (w0 w : World) (h : AR w0 pb ns aa ca) (hl : ns.length ≤ 60) :
    Calls Tryz.prog 139 #[.slice aa ns.length ca] w fun e w' => e = .returned (.slice aa ns.length ns.length) ∧ w' = w := by
  have hz : (ns.length : Int) ≤ 60 := by omega
  rcases h with ⟨rfl, rfl, rfl⟩ | ⟨hc, b, o, rfl, _, _, _⟩
  · go_enter Tryz.func139, Tryz.ntmps139
    go_wp2_with fail
    go_ret
    exact ⟨rfl, rfl⟩
  · have hcz : (ns.length : Int) ≤ (ca : Int) := by omega
    go_enter Tryz.func139, Tryz.ntmps139
    go_wp2_with fail
    go_ret
    exact ⟨rfl, rfl⟩
theorem infoSt : (Tryz.prog.info? 9).map (fun i => (i.zero, i.size, i.bytes)) = some (some (.string ⟨#[]⟩), 1, 16) := by kernel_rfl
theorem addj0 (g j : Nat) : (Addr.add ⟨g, 0, none⟩ j) = ⟨g, j, none⟩ := by unfold Addr.add; split <;> simp_all
theorem addjo (g o j : Nat) : (Addr.add ⟨g, o, none⟩ j) = ⟨g, o + j, none⟩ := by unfold Addr.add; split <;> simp_all
/-- append of one name onto names that have no room left -/
theorem run_append_name (w : World) (ty : TypeId) (ns : List ByteArray) (aa : Option Addr) (pb : Nat) (nm : ByteArray) (g c : Nat) (h : AR w pb ns aa ns.length) (hl : ns.length ≤ 60) (hg : w.cell? ⟨g, 0, none⟩ = some (.string nm)) (hpb : pb < w.heap.size) :
    ∃ aa' ca' w', (Builtin.append_ #[53, 53] ty #[.slice aa ns.length ns.length, .slice (some ⟨g, 0, none⟩) 1 c]).run Tryz.prog w = .ok (.slice aa' (ns.length + 1) ca') w' ∧ AR w' pb (ns ++ [nm]) aa' ca' ∧ Below w.heap.size w w' := by
  obtain ⟨i, hi, hz0, hz1, hz2⟩ := info_parts infoSt
  have hnews : ∀ j v, [Value.string nm][j]? = some v → w.cell? ((⟨g, 0, none⟩ : Addr).add j) = some v := by
    intro j v hj
    match j, hj with
    | 0, hj => simp at hj; subst hj; rw [addj0]; exact hg
    | j + 1, hj => simp at hj
  have hfin : ∀ (cap : Nat) (cs : List Value) (rest : Array Value), cs = (ns ++ [nm]).map Value.string → ns.length + 1 ≤ cap → AR (w.drew.alloc (.cells (cs.toArray ++ rest) 9)) pb (ns ++ [nm]) (some ⟨w.heap.size, 0, none⟩) cap := by
    intro cap cs rest hcs hcap
    refine .inr ⟨by simpa using hcap, w.heap.size, 0, rfl, by simp, by omega, fun k hk => ?_⟩
    have hk' : k < cs.length := by rw [hcs]; simpa using hk
    have e1 : (w.drew.alloc (.cells (cs.toArray ++ rest) 9)).cell? ⟨w.heap.size, 0 + k, none⟩ = (cs.toArray ++ rest)[k]? := by
      rw [Nat.zero_add]
      exact World.cell?_alloc_at _ _ _ _ rfl
    rw [e1, Array.getElem?_append_left (by simpa using hk')]
    simp only [List.getElem?_toArray]
    rw [List.getElem?_eq_getElem hk']
    simp only [hcs, List.getElem_map]
  rcases h with ⟨rfl, rfl, _⟩ | ⟨_, b, o, rfl, _, _, hc⟩
  · have hr := run_append_nil (P := Tryz.prog) w 53 ty 9 i _ Tryz.underlying53 hi hz0 ⟨g, 0, none⟩ 1 c [.string nm] (by rw [hz1]; rfl) hnews (by omega) (by omega) (by rw [hz2]; omega)
    refine ⟨_, _, _, hr, ?_, ((Below.refl _ _).drew).alloc (by simp) _⟩
    exact hfin _ [.string nm] _ rfl (grownCap_ge _ _ _ _)
  · have hr := run_append_grow (P := Tryz.prog) w 53 ty 9 i _ Tryz.underlying53 hi hz0 ⟨b, o, none⟩ ns.length ns.length (ns.map Value.string) (by rw [hz1]; simp) (fun j v hj => by
        rw [addjo]
        by_cases hjl : j < ns.length
        · rw [hc j hjl, ← hj]; simp [hjl]
        · rw [List.getElem?_eq_none (by simp; omega)] at hj; cases hj) ⟨g, 0, none⟩ 1 c [.string nm] (by rw [hz1]; rfl) hnews (by omega) (by omega) (growslice_fits (by omega) (by rw [hz2]; omega))
    refine ⟨_, _, _, hr, ?_, ((Below.refl _ _).drew).alloc (by simp) _⟩
    have := hfin (grownCap w (ns.length + 1) ns.length 9) ((ns ++ [nm]).map Value.string) (Builtin.zeroCells (Value.string ⟨#[]⟩).cells (grownCap w (ns.length + 1) ns.length 9 - (ns.length + 1))) rfl (grownCap_ge _ _ _ _)
    simpa using this
theorem step_append_name (w : World) {ops : Array Oper} {o : Oper} {a : Act} {K : Act → World → Prop} {Q : Exit → Act → World → Prop} {E : Prop} (hgd : o.guard = none) (s x : Operand)
    (ho : o.op = .call { callee := .builtin .append, args := #[s, x], argTypes := #[53, 53] })
    (ns : List ByteArray) (aa : Option Addr) (pb : Nat) (nm : ByteArray) (g c : Nat) (hs : a.eval s = .slice aa ns.length ns.length) (hx : a.eval x = .slice (some ⟨g, 0, none⟩) 1 c)
    (h : AR w pb ns aa ns.length) (hl : ns.length ≤ 60) (hg : w.cell? ⟨g, 0, none⟩ = some (.string nm)) (hpb : pb < w.heap.size)
    (hK : ∀ aa' ca' w', AR w' pb (ns ++ [nm]) aa' ca' → Below w.heap.size w w' → K (a.put o.dst (.slice aa' (ns.length + 1) ca')) w') :
    if Region.wanted o (yielded ops a.tmps) = true then Oper.wp Tryz.prog o a w K Q else E := by
  have hw : Region.wanted o (yielded ops a.tmps) = true := by simp [Region.wanted, hgd]
  rw [if_pos hw]
  obtain ⟨aa', ca', w', hr, h2, h3⟩ := run_append_name w o.type ns aa pb nm g c h hl hg hpb
  unfold Oper.wp execOp
  simp only [ho, resolve, invoke, builtin, Sem.run_bind, Sem.run_pure, Result.andThen_ok, List.map_toArray, List.map_cons, List.map_nil, hs, hx, hr]
  exact hK aa' ca' w' h2 h3
end Go.Proofs.YtipolobikigmbaaGreatDoor
