/-
  Nodes that are handed in.
-/
import Derived.Test.YtnedgkcejlhnbaaDoorNn
import Derived.Test.YtnedgkcejlhnbaaDoorNp
import Derived.Test.YtnedgkcejlhnbaaDoorProg
import Derived.Ground.NamesProg
import Derived.Shelf.LaysM
import Derived.Shelf.Strconv.Itoa4
namespace Go.Proofs.YtnedgkcejlhnbaaDoor
open Go.RowKit Go.Deep Go.Joins Go.ChangeShapes Go.WideShapes

section
variable {H : Type} {enc : TypeId × Value → H} {W : World} {base : Nat} {spare : Nat → Bool} {held : Bool}
theorem cellsNd : Tryd.prog.cellsOf 29 = 4 := by kernel_rfl
set_option maxRecDepth 100000 in
theorem openTos (fuel : Nat) (v : Value) (y : DataW H × List MemPlace) (h : DataW.trod enc Tryd.prog W base spare held fuel 27 [v] = some y) :
    ∃ (zs : List Int) (a : Option Addr) (c : Nat), v = .slice a zs.length c ∧ (zs.length ≤ 9223372036854775807 ∧ zs.length ≤ c) ∧ ZA W W.heap.size zs a := by
  rcases DataW.trod_slice Tryd.underlying27 h with ⟨e5, _⟩ | ⟨a, len, cap, elems, rest, k, hk, e5, hx, hb, hlc, hcm, hle, hel, _, _⟩
  · simp at e5
    subst e5
    exact ⟨[], none, 0, rfl, ⟨by simp, by simp⟩, .inl rfl⟩
  · simp at e5
    subst e5
    rw [cellsIn] at hel
    unfold maxLen at hcm
    have hall : ∀ i, i < len → ∃ z : Int, W.cells? base (a.add (i * 1)) 1 = some [.int .i64 z] := by
      intro i hi
      have q := hel i hi
      rw [List.getElem?_eq_getElem (by omega)] at q
      obtain ⟨cs', q1, q2⟩ := Option.bind_eq_some_iff.1 q
      obtain ⟨z, e1, _, _⟩ := DataW.trod_int Tryd.underlying3 q2
      subst e1
      exact ⟨z, q1⟩
    obtain ⟨f, hf⟩ := choose_lt hall
    refine ⟨(List.range len).map f, some a, cap, by simp, ⟨by simp; omega, by simp; omega⟩, ?_⟩
    by_cases hl0 : len = 0
    · exact .inl (by simp [hl0])
    · have q2 := (World.cells?_some (hf 0 (by omega))).2.2 0 (by omega)
      obtain ⟨b, o, spot⟩ := a
      have hsp : spot = none := by simpa [Addr.add] using World.cell?_spot q2
      subst hsp
      have hcell : ∀ i, i < len → W.cell? ⟨b, o + i, none⟩ = some (Value.int .i64 (f i)) := by
        intro i hi
        have := (World.cells?_some (hf i hi)).2.2 0 (by omega)
        rw [add_add, Go.WideShapes.add_plain] at this
        simpa using this
      refine .inr ⟨b, o, rfl, lt_of_cell ((hcell 0 (by omega)).trans rfl), fun i hi => ?_⟩
      have hi' : i < len := by simpa using hi
      rw [hcell i hi']
      simp
/-- a node of what is handed in: its To without their signs -/
def mkR (kd so : Int) (ls : List ByteArray) (zs : List Int) : Rn := (⟨kd, so, ls, zs.map Int.toNat⟩, zs)
set_option maxRecDepth 100000 in
theorem openNode (fuel : Nat) (cs : List Value) (y : DataW H × List MemPlace) (h : DataW.trod enc Tryd.prog W base spare held fuel 29 cs = some y) :
    ∃ (p : Rn) (al : Option Addr) (cl : Nat) (at1 : Option Addr) (ct : Nat), cs = [.int .i64 p.1.kind, .int .i64 p.1.so, .slice al p.1.labs.length cl, .slice at1 p.1.to.length ct] ∧ RnB p ∧ LA W W.heap.size p.1.labs al ∧ ZA W W.heap.size p.2 at1 ∧ p.1.to.length ≤ ct := by
  obtain ⟨xs, n, rfl, hy, hlen, hxs, hf⟩ := DataW.trod_struct Tryd.underlying29 h
  have h0 : DataW.trod enc Tryd.prog W base spare held n 3 (List.take 1 (List.drop 0 cs)) = xs[0]? := hf 0 _ rfl
  have h1 : DataW.trod enc Tryd.prog W base spare held n 3 (List.take 1 (List.drop 1 cs)) = xs[1]? := hf 1 _ rfl
  have h2 : DataW.trod enc Tryd.prog W base spare held n 26 (List.take 1 (List.drop 2 cs)) = xs[2]? := hf 2 _ rfl
  have h3 : DataW.trod enc Tryd.prog W base spare held n 27 (List.take 1 (List.drop 3 cs)) = xs[3]? := hf 3 _ rfl
  clear hf hy
  rw [cellsNd] at hlen
  match cs, hlen with
  | [a0, a1, a2, a3], _ =>
  match xs, hxs with
  | [x0, x1, x2, x3], _ =>
  simp at h0 h1 h2 h3
  obtain ⟨kd, e0, _, _⟩ := DataW.trod_int Tryd.underlying3 h0
  obtain ⟨so, e1, _, _⟩ := DataW.trod_int Tryd.underlying3 h1
  obtain ⟨ls, al, cl, rfl, hls, hlc1, hlc2, hla⟩ := openLabs n _ _ h2
  obtain ⟨zs, at1, ct, rfl, hzl, hza⟩ := openTos n _ _ h3
  simp at e0 e1
  subst e0 e1
  exact ⟨mkR kd so ls zs, al, cl, at1, ct, by simp [mkR], ⟨rfl, hls, by show ls.length ≤ _; omega⟩, hla, hza, by show (zs.map Int.toNat).length ≤ _; rw [List.length_map]; exact hzl.2⟩
set_option maxRecDepth 100000 in
/-- nodes that are handed in -/
theorem openNodes {r : Reach} {b0 : Nat} {v : Value} {d : DataW H} {p : List MemPlace} (hv : Value.okWide Tryd.prog W r b0 22 v) (h : DataW.Trod enc Tryd.prog W base spare held 22 v d p) :
    ∃ (rs : List Rn) (ag : Option Addr) (cg : Nat), v = .slice ag rs.length cg ∧ rs.length ≤ 9223372036854775807 ∧ (∀ p ∈ rs, RnB p) ∧ RGA W W.heap.size rs ag := by
  obtain ⟨a0, len, cap, rfl⟩ := okWide_slice Tryd.underlying22 hv
  obtain ⟨fuel, hf⟩ := h
  rcases DataW.trod_slice Tryd.underlying22 hf with ⟨e5, _⟩ | ⟨a, len', cap', elems, rest, k, hk, e5, hx, hb, hlc, hcm, hle, hel, _, _⟩
  · simp [Value.cells] at e5
    obtain ⟨rfl, rfl, rfl⟩ := e5
    exact ⟨[], none, 0, rfl, by simp, fun p hp => (by cases hp), .inl rfl⟩
  · simp [Value.cells] at e5
    obtain ⟨rfl, rfl, rfl⟩ := e5
    rw [cellsNd] at hel
    unfold maxLen at hcm
    have hall : ∀ i, i < len → ∃ p : Rn × Option Addr × Nat × Option Addr × Nat, W.cells? base (a.add (i * 4)) 4 = some [.int .i64 p.1.1.kind, .int .i64 p.1.1.so, .slice p.2.1 p.1.1.labs.length p.2.2.1, .slice p.2.2.2.1 p.1.1.to.length p.2.2.2.2] ∧ RnB p.1 ∧ LA W W.heap.size p.1.1.labs p.2.1 ∧ ZA W W.heap.size p.1.2 p.2.2.2.1 ∧ p.1.1.to.length ≤ p.2.2.2.2 := by
      intro i hi
      have q := hel i hi
      rw [List.getElem?_eq_getElem (by omega)] at q
      obtain ⟨cs', q1, q2⟩ := Option.bind_eq_some_iff.1 q
      obtain ⟨x, al, cl, at1, ct, rfl, h1, h2, h3⟩ := openNode k cs' _ q2
      exact ⟨(x, al, cl, at1, ct), q1, h1, h2, h3⟩
    haveI : Inhabited (Rn × Option Addr × Nat × Option Addr × Nat) := ⟨(mkR 0 0 [] [], none, 0, none, 0)⟩
    obtain ⟨f, hf⟩ := choose_lt hall
    refine ⟨(List.range len).map fun i => (f i).1, some a, cap, by simp, by simp; omega, fun p hp => ?_, ?_⟩
    · obtain ⟨i, hi, rfl⟩ := List.mem_map.1 hp
      exact (hf i (by simpa using hi)).2.1
    by_cases hl0 : len = 0
    · exact .inl (by simp [hl0])
    · obtain ⟨q1, _⟩ := hf 0 (by omega)
      have q2 := (World.cells?_some q1).2.2 0 (by omega)
      obtain ⟨b, o, spot⟩ := a
      have hsp : spot = none := by simpa [Addr.add] using World.cell?_spot q2
      subst hsp
      have hcell : ∀ i j, i < len → j < 4 → W.cell? ⟨b, o + i * 4 + j, none⟩ = [Value.int .i64 (f i).1.1.kind, .int .i64 (f i).1.1.so, .slice (f i).2.1 (f i).1.1.labs.length (f i).2.2.1, .slice (f i).2.2.2.1 (f i).1.1.to.length (f i).2.2.2.2][j]? := by
        intro i j hi hj
        obtain ⟨q1, _⟩ := hf i hi
        have := (World.cells?_some q1).2.2 j hj
        rw [add_add, Go.WideShapes.add_plain] at this
        rw [Nat.add_assoc]; exact this
      refine .inr ⟨b, o, rfl, lt_of_cell ((hcell 0 0 (by omega) (by omega)).trans rfl), fun i hi => ?_⟩
      have hi' : i < len := by simpa using hi
      have e : ((List.range len).map fun i => (f i).1)[i] = (f i).1 := by simp
      simp only [e]
      obtain ⟨_, _, h2, h3⟩ := hf i hi'
      exact ⟨(f i).2.1, (f i).2.2.1, (f i).2.2.2.1, (f i).2.2.2.2, ⟨(hcell i 0 hi' (by omega)).trans rfl, (hcell i 1 hi' (by omega)).trans rfl, (hcell i 2 hi' (by omega)).trans rfl, (hcell i 3 hi' (by omega)).trans rfl⟩, h2, h3⟩
end
end Go.Proofs.YtnedgkcejlhnbaaDoor
/-
  Plain mathematics: how many ways there are of so many doings; nodes that do the same have as many.
-/
namespace Go.Proofs.YtnedgkcejlhnbaaDoor

/-- where one may go on: nobody goes on in what is carried -/
def nxN (n : Nd) : List Nat := if n.kind = 4 ∨ n.kind = 5 then n.to.drop 1 else n.to
def wayN (g : List Nd) : Nat → Nat → List Nat
  | 0, i => if (nodeAt g i).kind = 1 then one9 else zero9
  | k + 1, i => (nxN (nodeAt g i)).foldl (fun s t => plusL s (wayN g k t) 0) zero9
theorem foldl_plus_len (f : Nat → List Nat) (hf : ∀ t, (f t).length = 9) : ∀ (ts : List Nat) (s : List Nat), s.length = 9 → (ts.foldl (fun s t => plusL s (f t) 0) s).length = 9
  | [], _, h => h
  | t :: ts, s, h => foldl_plus_len f hf ts _ (by rw [plusL_len _ _ _ (by rw [h, hf t])]; exact h)
theorem wayN_len (g : List Nd) : ∀ k i, (wayN g k i).length = 9
  | 0, i => by rw [wayN]; split <;> rfl
  | k + 1, i => by rw [wayN]; exact foldl_plus_len _ (wayN_len g k) _ _ rfl
theorem foldl_plus_lt (f : Nat → List Nat) : ∀ (ts : List Nat) (s : List Nat), (∀ x ∈ s, x < gpB) → ∀ x ∈ ts.foldl (fun s t => plusL s (f t) 0) s, x < gpB
  | [], _, h => h
  | _ :: ts, _, _ => foldl_plus_lt f ts _ (plusL_lt _ _ _)
theorem wayN_lt (g : List Nd) : ∀ k i, ∀ x ∈ wayN g k i, x < gpB
  | 0, i => by
    rw [wayN]
    split <;> (intro x hx; simp [one9, zero9] at hx; unfold gpB; omega)
  | k + 1, i => by
    rw [wayN]
    exact foldl_plus_lt _ _ _ (fun x hx => by simp [zero9] at hx; unfold gpB; omega)
/-- nodes that do the same have as many ways -/
theorem way_same {g h : List Nd} : ∀ (k i j : Nat), gT g (k + 1) i = gT h (k + 1) j → wayN g k i = wayN h k j
  | 0, i, j, e => by
    rw [gT_eq_iff] at e
    rw [wayN, wayN, e.1]
  | k + 1, i, j, e => by
    rw [gT_eq_iff] at e
    obtain ⟨e1, _, _, e4⟩ := e
    rw [wayN, wayN]
    have key : ∀ (l m : List Nat), l.map (gT g (k + 1)) = m.map (gT h (k + 1)) → l.map (wayN g k) = m.map (wayN h k) := by
      intro l
      induction l with
      | nil => intro m hm; cases m with
        | nil => rfl
        | cons a m => simp at hm
      | cons a l ih =>
        intro m hm
        cases m with
        | nil => simp at hm
        | cons b m =>
          rw [List.map_cons, List.map_cons, List.cons.injEq] at hm
          rw [List.map_cons, List.map_cons, ih m hm.2, way_same k a b hm.1]
    have hn : (nxN (nodeAt g i)).map (wayN g k) = (nxN (nodeAt h j)).map (wayN h k) := by
      refine key _ _ ?_
      unfold nxN
      rw [e1]
      split
      · rw [List.map_drop, List.map_drop, e4]
      · exact e4
    have fm : ∀ (f : Nat → List Nat) (l : List Nat) (s : List Nat), l.foldl (fun s t => plusL s (f t) 0) s = (l.map f).foldl (fun s x => plusL s x 0) s := fun f l s => by rw [List.foldl_map]
    rw [fm, fm, hn]
end Go.Proofs.YtnedgkcejlhnbaaDoor

/-
  Contracts of the library's digits, laid at this program. Conditions: none.
-/
namespace Go.Proofs
open Go.Shelf
def Tryd.lays283_ren : Go.Shelf.Ren := ⟨fun | 283 => 88 | n => n, fun | 3 => 3 | 9 => 9 | 4 => 4 | n => n, fun | n => n⟩
theorem Tryd.lays283 : Go.Proofs.Lays.n283 Tryd.prog Tryd.lays283_ren := {
  mixed := by kernel_rfl
  f283 := Tryd.func88.trans (congrArg some (by kernel_rfl))
  t3 := Tryd.underlying3
  a3 := Tryd.isAgg3
  z3 := Tryd.sizeOf3
  v3 := Tryd.zeroValue3
  t4 := Tryd.underlying4
  a4 := Tryd.isAgg4
  z4 := Tryd.sizeOf4
  v4 := Tryd.zeroValue4
  t9 := Tryd.underlying9
  a9 := Tryd.isAgg9
  z9 := Tryd.sizeOf9
  v9 := Tryd.zeroValue9 }
def Tryd.laysM284_ren : Go.Shelf.Ren := ⟨fun | 284 => 89 | 129 => 107 | 317 => 106 | 318 => 108 | n => n, fun | 53 => 60 | 3 => 3 | 212 => 183 | 0 => 0 | 4 => 4 | 46 => 120 | 5 => 5 | 9 => 9 | n => n, fun | 17 => 0 | n => n⟩
theorem Tryd.laysM284 : Go.Proofs.LaysM.n284 Tryd.prog Tryd.laysM284_ren := {
  mixed := by kernel_rfl
  f129 := Tryd.func107.trans (congrArg some (by kernel_rfl))
  f284 := Tryd.func89.trans (congrArg some (by kernel_rfl))
  f317 := Tryd.func106.trans (congrArg some (by kernel_rfl))
  f318 := Tryd.func108.trans (congrArg some (by kernel_rfl))
  t0 := Tryd.underlying0
  a0 := Tryd.isAgg0
  z0 := Tryd.sizeOf0
  v0 := Tryd.zeroValue0
  t3 := Tryd.underlying3
  a3 := Tryd.isAgg3
  z3 := Tryd.sizeOf3
  v3 := Tryd.zeroValue3
  t4 := Tryd.underlying4
  a4 := Tryd.isAgg4
  z4 := Tryd.sizeOf4
  v4 := Tryd.zeroValue4
  t5 := Tryd.underlying5
  a5 := Tryd.isAgg5
  z5 := Tryd.sizeOf5
  v5 := Tryd.zeroValue5
  t9 := Tryd.underlying9
  a9 := Tryd.isAgg9
  z9 := Tryd.sizeOf9
  v9 := Tryd.zeroValue9
  t46 := Tryd.underlying120
  a46 := Tryd.isAgg120
  z46 := Tryd.sizeOf120
  v46 := Tryd.zeroValue120
  t53 := Tryd.underlying60
  a53 := Tryd.isAgg60
  z53 := Tryd.sizeOf60
  v53 := Tryd.zeroValue60
  t212 := Tryd.underlying183
  a212 := Tryd.isAgg183
  z212 := Tryd.sizeOf183
  v212 := Tryd.zeroValue183
  g17 := by kernel_rfl
  i0 := by kernel_rfl
  i3 := by kernel_rfl
  i4 := by kernel_rfl
  i5 := by kernel_rfl
  i9 := by kernel_rfl
  i46 := by kernel_rfl
  i53 := by kernel_rfl
  i212 := by kernel_rfl
  m17 := by kernel_rfl }
def Tryd.lays285_ren : Go.Shelf.Ren := ⟨fun | 285 => 90 | n => n, fun | 37 => 125 | 53 => 60 | 3 => 3 | 4 => 4 | 51 => 165 | 9 => 9 | 5 => 5 | 0 => 0 | n => n, fun | n => n⟩
theorem Tryd.lays285 : Go.Proofs.Lays.n285 Tryd.prog Tryd.lays285_ren := {
  mixed := by kernel_rfl
  f285 := Tryd.func90.trans (congrArg some (by kernel_rfl))
  t0 := Tryd.underlying0
  a0 := Tryd.isAgg0
  z0 := Tryd.sizeOf0
  v0 := Tryd.zeroValue0
  t3 := Tryd.underlying3
  a3 := Tryd.isAgg3
  z3 := Tryd.sizeOf3
  v3 := Tryd.zeroValue3
  t4 := Tryd.underlying4
  a4 := Tryd.isAgg4
  z4 := Tryd.sizeOf4
  v4 := Tryd.zeroValue4
  t5 := Tryd.underlying5
  a5 := Tryd.isAgg5
  z5 := Tryd.sizeOf5
  v5 := Tryd.zeroValue5
  t9 := Tryd.underlying9
  a9 := Tryd.isAgg9
  z9 := Tryd.sizeOf9
  v9 := Tryd.zeroValue9
  t37 := Tryd.underlying125
  a37 := Tryd.isAgg125
  z37 := Tryd.sizeOf125
  v37 := Tryd.zeroValue125
  t51 := Tryd.underlying165
  a51 := Tryd.isAgg165
  z51 := Tryd.sizeOf165
  v51 := Tryd.zeroValue165
  t53 := Tryd.underlying60
  a53 := Tryd.isAgg60
  z53 := Tryd.sizeOf60
  v53 := Tryd.zeroValue60 }
end Go.Proofs
