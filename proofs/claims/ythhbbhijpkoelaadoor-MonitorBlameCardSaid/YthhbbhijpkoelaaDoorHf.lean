/-
  Graphs in memory; keys as values: two nodes of the right shape have one key as a value just if they have one key.
-/
import Derived.Test.YthhbbhijpkoelaaDoorHe
import Derived.Laws.MakeOwn
namespace Go.Proofs.YthhbbhijpkoelaaDoor
open Go.RowKit Go.Shelf

/-- a node of the right shape -/
def shpN (n : Nd) : Prop := ((n.kind = 1 ∧ n.to.length = 0 ∧ n.labs = []) ∨ ((n.kind = 2 ∨ n.kind = 3) ∧ n.to.length = 1 ∧ n.labs = []) ∨ ((n.kind = 4 ∨ n.kind = 5) ∧ n.to.length = 2 ∧ n.labs = []) ∨ ((n.kind = 6 ∨ n.kind = 7) ∧ n.to.length = n.labs.length ∧ n.labs.length ≤ 6)) ∧ (∀ l ∈ n.labs, l.size ≠ 0 ∧ l.size ≤ 1000) ∧ in64z n.so
theorem shp_len {n : Nd} (h : shpN n) : n.labs.length ≤ 6 ∧ n.to.length ≤ 6 ∧ in64z n.kind := by
  obtain ⟨h, _, _⟩ := h
  unfold in64z
  rcases h with ⟨h1, h2, h3⟩ | ⟨h1 | h1, h2, h3⟩ | ⟨h1 | h1, h2, h3⟩ | ⟨h1 | h1, h2, h3⟩ <;> first | (rw [h3]; simp; omega) | omega
theorem shp_to {n m : Nd} (h : shpN n) (h' : shpN m) (hk : n.kind = m.kind) (hl : n.labs.length = m.labs.length) : n.to.length = m.to.length := by
  obtain ⟨h, _, _⟩ := h
  obtain ⟨h', _, _⟩ := h'
  rcases h with ⟨h1, h2, _⟩ | ⟨h1 | h1, h2, _⟩ | ⟨h1 | h1, h2, _⟩ | ⟨h1 | h1, h2, _⟩ <;> rcases h' with ⟨g1, g2, _⟩ | ⟨g1 | g1, g2, _⟩ | ⟨g1 | g1, g2, _⟩ | ⟨g1 | g1, g2, _⟩ <;> omega
theorem pad_inj {α : Type} (z : α) : ∀ (l l' : List α) (n n' : Nat), z ∉ l → z ∉ l' → l ++ List.replicate n z = l' ++ List.replicate n' z → l = l'
  | [], [], _, _, _, _, _ => rfl
  | [], a :: l', n, n', _, h', e => by
    cases n with
    | zero => simp at e
    | succ n =>
      rw [List.replicate_succ] at e
      simp only [List.nil_append, List.cons_append, List.cons.injEq] at e
      exact absurd (by rw [e.1]; exact .head _) h'
  | a :: l, [], n, n', h, _, e => by
    cases n' with
    | zero => simp at e
    | succ n' =>
      rw [List.replicate_succ] at e
      simp only [List.nil_append, List.cons_append, List.cons.injEq] at e
      exact absurd (by rw [← e.1]; exact .head _) h
  | a :: l, b :: l', n, n', h, h', e => by
    simp only [List.cons_append, List.cons.injEq] at e
    rw [e.1, pad_inj z l l' n n' (fun x => h (.tail _ x)) (fun x => h' (.tail _ x)) e.2]
/-- a key as a value -/
def kvN (c : List Nat) (n : Nd) : Value := .agg (kN c n).toArray
def kvK (k : Key) : Value := .agg (kCs k.1 k.2.1 (k.2.2.1.map fun l => (⟨l.toArray⟩ : ByteArray)) (k.2.2.2.map fun t : Nat => (t : Int))).toArray
theorem kv_key (c : List Nat) (n : Nd) : kvK (keyOfN c n) = kvN c n := by
  unfold kvK keyOfN kvN kN
  simp only [List.map_map]
  congr 2
  have e : (fun l : List UInt8 => (⟨l.toArray⟩ : ByteArray)) ∘ (fun b : ByteArray => b.data.toList) = id := by funext b; simp
  rw [e, List.map_id]
  rfl
theorem kv_inj {c : List Nat} {n m : Nd} (h : shpN n) (h' : shpN m) (e : kvN c n = kvN c m) : keyOfN c n = keyOfN c m := by
  unfold kvN kN at e
  injection e with e
  have e1 := congrArg Array.toList e
  simp only [kCs_eq] at e1
  have hn := shp_len h
  have hm := shp_len h'
  obtain ⟨a1, a2⟩ := List.append_inj e1 (by rw [kCs_head _ _ _ hn.1, kCs_head _ _ _ hm.1])
  simp only [List.cons_append, List.nil_append, List.cons.injEq, Value.int.injEq, true_and] at a1
  obtain ⟨b1, b2, b3⟩ := a1
  have hl : n.labs = m.labs := by
    have nz : ∀ q : Nd, shpN q → Value.string ⟨#[]⟩ ∉ q.labs.map Value.string := fun q hq hm => by
      obtain ⟨l, hl, e⟩ := List.mem_map.1 hm
      injection e with e
      have := (hq.2.1 l hl).1
      rw [e] at this
      exact this rfl
    have := pad_inj _ _ _ _ _ (nz n h) (nz m h') b3
    exact (List.map_inj_right (fun a b e => by injection e)).1 this
  have ht := shp_to h h' b1 (by rw [hl])
  obtain ⟨c1, _⟩ := List.append_inj a2 (by simpa using ht)
  unfold keyOfN
  rw [b1, b2, hl]
  have c2 := (List.map_inj_right (fun a b e => by injection e)).1 c1
  have c3 : (n.to.map fun t => (c[t]?).getD 0) = m.to.map fun t => (c[t]?).getD 0 := by
    have d1 : (n.to.map fun t => ((clAt c t : Nat) : Int)) = (n.to.map fun t => (c[t]?).getD 0).map (fun x : Nat => (x : Int)) := by rw [List.map_map]; rfl
    have d2 : (m.to.map fun t => ((clAt c t : Nat) : Int)) = (m.to.map fun t => (c[t]?).getD 0).map (fun x : Nat => (x : Int)) := by rw [List.map_map]; rfl
    rw [d1, d2] at c2
    exact (List.map_inj_right (fun a b e => Int.ofNat.inj e)).1 c2
  rw [c3]
/-- the cells of a key, one by one -/
theorem kN_cells {c : List Nat} {n : Nd} (h : shpN n) (hc : ∀ x ∈ c, x ≤ 1000) : ∃ (s0 s1 s2 s3 s4 s5 : ByteArray) (m0 m1 m2 m3 m4 m5 : Int), kN c n = [.int .i64 n.kind, .int .i64 n.so, .string s0, .string s1, .string s2, .string s3, .string s4, .string s5, .int .i64 m0, .int .i64 m1, .int .i64 m2, .int .i64 m3, .int .i64 m4, .int .i64 m5] ∧
    (∃ l, keyOf Tryd.prog 118 (kvN c n) = some l) := by
  have hn := shp_len h
  have hA : ∃ s0 s1 s2 s3 s4 s5 : ByteArray, n.labs.map Value.string ++ List.replicate (6 - n.labs.length) (.string ⟨#[]⟩) = [.string s0, .string s1, .string s2, .string s3, .string s4, .string s5] ∧ s0.size ≤ maxLen ∧ s1.size ≤ maxLen ∧ s2.size ≤ maxLen ∧ s3.size ≤ maxLen ∧ s4.size ≤ maxLen ∧ s5.size ≤ maxLen := by
    have hs : ∀ s ∈ n.labs ++ List.replicate (6 - n.labs.length) (⟨#[]⟩ : ByteArray), s.size ≤ maxLen := by
      intro s hs
      rcases List.mem_append.1 hs with hs | hs
      · have := (h.2.1 s hs).2
        unfold maxLen
        omega
      · rw [(List.mem_replicate.1 hs).2]; decide
    have e : n.labs.map Value.string ++ List.replicate (6 - n.labs.length) (.string ⟨#[]⟩) = (n.labs ++ List.replicate (6 - n.labs.length) (⟨#[]⟩ : ByteArray)).map Value.string := by simp
    rw [e]
    have hl : (n.labs ++ List.replicate (6 - n.labs.length) (⟨#[]⟩ : ByteArray)).length = 6 := by simp; omega
    generalize n.labs ++ List.replicate (6 - n.labs.length) (⟨#[]⟩ : ByteArray) = L at *
    match L, hl with
    | [s0, s1, s2, s3, s4, s5], _ => exact ⟨s0, s1, s2, s3, s4, s5, rfl, hs _ (by simp), hs _ (by simp), hs _ (by simp), hs _ (by simp), hs _ (by simp), hs _ (by simp)⟩
  have hB : ∃ m0 m1 m2 m3 m4 m5 : Int, (n.to.map fun t => (clAt c t : Int)).map (Value.int .i64) ++ List.replicate (6 - (n.to.map fun t => (clAt c t : Int)).length) (.int .i64 0) = [.int .i64 m0, .int .i64 m1, .int .i64 m2, .int .i64 m3, .int .i64 m4, .int .i64 m5] ∧ in64z m0 ∧ in64z m1 ∧ in64z m2 ∧ in64z m3 ∧ in64z m4 ∧ in64z m5 := by
    have hs : ∀ s ∈ (n.to.map fun t => (clAt c t : Int)) ++ List.replicate (6 - (n.to.map fun t => (clAt c t : Int)).length) (0 : Int), in64z s := by
      intro s hs
      rcases List.mem_append.1 hs with hs | hs
      · obtain ⟨t, _, rfl⟩ := List.mem_map.1 hs
        have : clAt c t ≤ 1000 := by
          unfold clAt
          cases hq : c[t]? with
          | none => exact Nat.zero_le _
          | some x => exact hc x (List.mem_of_getElem? hq)
        unfold in64z; omega
      · rw [(List.mem_replicate.1 hs).2]; unfold in64z; omega
    have e : (n.to.map fun t => (clAt c t : Int)).map (Value.int .i64) ++ List.replicate (6 - (n.to.map fun t => (clAt c t : Int)).length) (.int .i64 0) = ((n.to.map fun t => (clAt c t : Int)) ++ List.replicate (6 - (n.to.map fun t => (clAt c t : Int)).length) (0 : Int)).map (Value.int .i64) := by simp
    rw [e]
    have hl : ((n.to.map fun t => (clAt c t : Int)) ++ List.replicate (6 - (n.to.map fun t => (clAt c t : Int)).length) (0 : Int)).length = 6 := by simp; omega
    generalize (n.to.map fun t => (clAt c t : Int)) ++ List.replicate (6 - (n.to.map fun t => (clAt c t : Int)).length) (0 : Int) = L at *
    match L, hl with
    | [s0, s1, s2, s3, s4, s5], _ => exact ⟨s0, s1, s2, s3, s4, s5, rfl, hs _ (by simp), hs _ (by simp), hs _ (by simp), hs _ (by simp), hs _ (by simp), hs _ (by simp)⟩
  obtain ⟨s0, s1, s2, s3, s4, s5, hs, a0, a1, a2, a3, a4, a5⟩ := hA
  obtain ⟨m0, m1, m2, m3, m4, m5, hm, b0, b1, b2, b3, b4, b5⟩ := hB
  have e : kN c n = [.int .i64 n.kind, .int .i64 n.so, .string s0, .string s1, .string s2, .string s3, .string s4, .string s5, .int .i64 m0, .int .i64 m1, .int .i64 m2, .int .i64 m3, .int .i64 m4, .int .i64 m5] := by
    unfold kN kCs
    rw [hs, hm]
    rfl
  refine ⟨s0, s1, s2, s3, s4, s5, m0, m1, m2, m3, m4, m5, e, ?_⟩
  unfold kvN
  rw [e]
  exact key_of n.kind n.so s0 s1 s2 s3 s4 s5 m0 m1 m2 m3 m4 m5 hn.2.2 h.2.2 a0 a1 a2 a3 a4 a5 b0 b1 b2 b3 b4 b5
theorem infoI : (Tryd.prog.info? 3).map (fun i => (i.zero, i.size, i.bytes)) = some (some (.int .i64 0), 1, 8) := by kernel_rfl
theorem makeI (n : Nat) (hn : n ≤ 1000) : ∃ Z : Array Value, (∀ j, j < n → Z[j]? = some (.int .i64 0)) ∧ ∀ w : World, (Instr.makeSlice 26 (.int .i64 (n : Int)) (.int .i64 (n : Int))).run Tryd.prog w = .ok (.slice (some ⟨w.heap.size, 0, none⟩) n n) (w.alloc (.cells Z 3)) := by
  obtain ⟨i, hi, hx⟩ := Option.map_eq_some_iff.1 infoI
  simp only [Prod.mk.injEq] at hx
  obtain ⟨h1, h2, h3⟩ := hx
  refine ⟨madeCells (Value.int .i64 0).cells (n * i.size), fun j hj => ?_, fun w => ?_⟩
  · rw [h2, Nat.mul_one]
    unfold madeCells
    rw [Array.getElem?_map, Array.getElem?_range, if_pos hj]
    simp [Value.cells, Nat.mod_one]
  · have := run_make (P := Tryd.prog) w 26 3 i _ Tryd.underlying26 hi h1 .i64 .i64 (n : Int) (n : Int) (by omega) (by omega) (by rw [h3]; omega) (by omega)
    simpa using this
/-- a graph in memory -/
structure NdAt (W : World) (b o : Nat) (n : Nd) (al : Option Addr) (cl : Nat) (at1 : Option Addr) (ct : Nat) : Prop where
  c0 : W.cell? ⟨b, o, none⟩ = some (.int .i64 n.kind)
  c1 : W.cell? ⟨b, o + 1, none⟩ = some (.int .i64 n.so)
  c2 : W.cell? ⟨b, o + 2, none⟩ = some (.slice al n.labs.length cl)
  c3 : W.cell? ⟨b, o + 3, none⟩ = some (.slice at1 n.to.length ct)
def GAt (W : World) (B : Nat) (g : List Nd) (ag : Option Addr) : Prop := g = [] ∨ ∃ b o, ag = some ⟨b, o, none⟩ ∧ b < B ∧ ∀ i (h : i < g.length), ∃ al cl at1 ct, NdAt W b (o + i * 4) g[i] al cl at1 ct ∧ LA W B g[i].labs al ∧ NI W B g[i].to at1
theorem NdAt.keep {W W' : World} {B b o : Nat} {n : Nd} {al : Option Addr} {cl : Nat} {at1 : Option Addr} {ct : Nat} (h : NdAt W b o n al cl at1 ct) (hb : Below B W W') (hl : b < B) : NdAt W' b o n al cl at1 ct :=
  ⟨(hb.cell (p := ⟨b, o, none⟩) hl).trans h.c0, (hb.cell (p := ⟨b, o + 1, none⟩) hl).trans h.c1, (hb.cell (p := ⟨b, o + 2, none⟩) hl).trans h.c2, (hb.cell (p := ⟨b, o + 3, none⟩) hl).trans h.c3⟩
theorem GAt.keep {W W' : World} {B : Nat} {g : List Nd} {ag : Option Addr} (hb : Below B W W') (h : GAt W B g ag) : GAt W' B g ag :=
  h.imp id fun ⟨b, o, e, hl, hc⟩ => ⟨b, o, e, hl, fun i hi => by
    obtain ⟨al, cl, at1, ct, h1, h2, h3⟩ := hc i hi
    exact ⟨al, cl, at1, ct, h1.keep hb hl, h2.keep hb, h3.keep hb⟩⟩
theorem GAt.mono {W : World} {B B' : Nat} {g : List Nd} {ag : Option Addr} (hB : B ≤ B') (h : GAt W B g ag) : GAt W B' g ag :=
  h.imp id fun ⟨b, o, e, hl, hc⟩ => ⟨b, o, e, by omega, fun i hi => by
    obtain ⟨al, cl, at1, ct, h1, h2, h3⟩ := hc i hi
    exact ⟨al, cl, at1, ct, h1, h2.mono hB, h3.mono hB⟩⟩
end Go.Proofs.YthhbbhijpkoelaaDoor
