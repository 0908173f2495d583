/-
  append of a meaning; what graph.lay is promised to do.
-/
import Derived.Test.YtnedgkcejlhnbaaDoorHp
namespace Go.Proofs.YtnedgkcejlhnbaaDoor
open Go.RowKit Go.Shelf

theorem infoMe : (Tryd.prog.info? 146).map (fun i => (i.zero, i.size, i.bytes)) = some (some (.agg #[.string ⟨#[]⟩, .int .i64 0]), 2, 24) := by kernel_rfl
def mCs (ar : Ar) : List Value := ar.flatMap fun p => [Value.string p.1, .int .i64 (p.2 : Int)]
theorem mCs_len (ar : Ar) : (mCs ar).length = ar.length * 2 := by
  induction ar with
  | nil => rfl
  | cons p ar ih =>
    have e : mCs (p :: ar) = [Value.string p.1, .int .i64 (p.2 : Int)] ++ mCs ar := rfl
    rw [e, List.length_append, ih]
    simp
    omega
theorem mCs_at : ∀ (ar : Ar) (i : Nat) (h : i < ar.length), (mCs ar)[i * 2]? = some (.string ar[i].1) ∧ (mCs ar)[i * 2 + 1]? = some (.int .i64 (ar[i].2 : Int))
  | [], i, h => by simp at h
  | p :: ar, 0, _ => ⟨rfl, rfl⟩
  | p :: ar, i + 1, h => by
    have e : mCs (p :: ar) = [Value.string p.1, .int .i64 (p.2 : Int)] ++ mCs ar := rfl
    have ih := mCs_at ar i (by simpa using h)
    have h2 : ∀ j, ([Value.string p.1, .int .i64 (p.2 : Int)] ++ mCs ar)[j + 2]? = (mCs ar)[j]? := fun j => by rw [List.getElem?_append_right (by simp)]; rfl
    rw [e, show (i + 1) * 2 = i * 2 + 2 by omega, h2, show i * 2 + 2 + 1 = (i * 2 + 1) + 2 by omega, h2]
    exact ⟨ih.1, ih.2⟩
theorem mCs_snoc (ar : Ar) (p : ByteArray × Nat) : mCs (ar ++ [p]) = mCs ar ++ [.string p.1, .int .i64 (p.2 : Int)] := by simp [mCs]
theorem mCs_of {W : World} {b o : Nat} {ar : Ar} (hc : ∀ i (h : i < ar.length), W.cell? ⟨b, o + i * 2, none⟩ = some (.string ar[i].1) ∧ W.cell? ⟨b, o + i * 2 + 1, none⟩ = some (.int .i64 (ar[i].2 : Int))) : ∀ j v, (mCs ar)[j]? = some v → W.cell? ⟨b, o + j, none⟩ = some v := by
  intro j v hj
  have hl : j < ar.length * 2 := by
    rw [← mCs_len]
    exact (List.getElem?_eq_some_iff.1 hj).1
  obtain ⟨h0, h1⟩ := mCs_at ar (j / 2) (by omega)
  obtain ⟨q0, q1⟩ := hc (j / 2) (by omega)
  rcases Nat.mod_two_eq_zero_or_one j with hm | hm
  · have e : j = j / 2 * 2 := by omega
    rw [e] at hj ⊢
    rw [h0] at hj
    rw [q0]; exact hj
  · have e : j = j / 2 * 2 + 1 := by omega
    rw [e] at hj ⊢
    rw [h1] at hj
    rw [← Nat.add_assoc, q1]; exact hj
theorem run_append_m (w : World) (ty : TypeId) (ar : Ar) (aa : Option Addr) (pg : Nat) (row : Option Nat) (nm : ByteArray) (z g c : Nat) (h : MR w pg row ar aa ar.length) (hl : ar.length ≤ 1000) (hg0 : w.cell? ⟨g, 0, none⟩ = some (.string nm)) (hg1 : w.cell? ⟨g, 1, none⟩ = some (.int .i64 (z : Int))) (hpg : pg < w.heap.size) (hrow : ∀ k, row = some k → k < w.heap.size) :
    ∃ aa' ca' w', (Builtin.append_ #[142, 142] ty #[.slice aa ar.length ar.length, .slice (some ⟨g, 0, none⟩) 1 c]).run Tryd.prog w = .ok (.slice aa' (ar.length + 1) ca') w' ∧ MR w' pg row (ar ++ [(nm, z)]) aa' ca' ∧ Below w.heap.size w w' := by
  obtain ⟨i, hi, hz0, hz1, hz2⟩ := info_parts infoMe
  have hnews : ∀ j v, [Value.string nm, .int .i64 (z : Int)][j]? = some v → w.cell? ((⟨g, 0, none⟩ : Addr).add j) = some v := by
    intro j v hj
    match j, hj with
    | 0, hj => simp at hj; subst hj; rw [addj0]; exact hg0
    | 1, hj => simp at hj; subst hj; rw [addj0]; exact hg1
    | j + 2, hj => simp at hj
  have hfin : ∀ (cap : Nat) (cs : List Value) (rest : Array Value), cs = mCs (ar ++ [(nm, z)]) → ar.length + 1 ≤ cap → MR (w.drew.alloc (.cells (cs.toArray ++ rest) 146)) pg row (ar ++ [(nm, z)]) (some ⟨w.heap.size, 0, none⟩) cap := by
    intro cap cs rest hcs hcap
    have hcell : ∀ j v, (mCs (ar ++ [(nm, z)]))[j]? = some v → (w.drew.alloc (.cells (cs.toArray ++ rest) 146)).cell? ⟨w.heap.size, j, none⟩ = some v := by
      intro j v hj
      have e1 : (w.drew.alloc (.cells (cs.toArray ++ rest) 146)).cell? ⟨w.heap.size, j, none⟩ = (cs.toArray ++ rest)[j]? := World.cell?_alloc_at _ _ _ _ rfl
      have hjl := (List.getElem?_eq_some_iff.1 hj).1
      rw [e1, Array.getElem?_append_left (by simp [hcs]; exact hjl)]
      simp only [List.getElem?_toArray]
      rw [hcs]; exact hj
    refine .inr ⟨by simpa using hcap, w.heap.size, 0, rfl, by simp, by omega, fun e => by have := hrow _ e; omega, fun k hk => ?_⟩
    obtain ⟨h0, h1⟩ := mCs_at (ar ++ [(nm, z)]) k hk
    rw [Nat.zero_add]
    exact ⟨hcell _ _ h0, hcell _ _ h1⟩
  rcases h with ⟨rfl, rfl, _⟩ | ⟨_, b, o, rfl, _, _, _, hc⟩
  · have hr := run_append_nil (P := Tryd.prog) w 142 ty 146 i _ Tryd.underlying142 hi hz0 ⟨g, 0, none⟩ 1 c [.string nm, .int .i64 (z : Int)] (by rw [hz1]; rfl) hnews (by omega) (by omega) (by rw [hz2]; omega)
    refine ⟨_, _, _, hr, ?_, ((Below.refl _ _).drew).alloc (by simp) _⟩
    exact hfin _ [.string nm, .int .i64 (z : Int)] _ rfl (grownCap_ge _ _ _ _)
  · have hr := run_append_grow (P := Tryd.prog) w 142 ty 146 i _ Tryd.underlying142 hi hz0 ⟨b, o, none⟩ ar.length ar.length (mCs ar) (by rw [hz1]; exact mCs_len ar) (fun j v hj => by rw [addjo]; exact mCs_of hc j v hj) ⟨g, 0, none⟩ 1 c [.string nm, .int .i64 (z : Int)] (by rw [hz1]; rfl) hnews (by omega) (by omega) (growslice_fits (by omega) (by rw [hz2]; omega))
    refine ⟨_, _, _, hr, ?_, ((Below.refl _ _).drew).alloc (by simp) _⟩
    have := hfin (grownCap w (ar.length + 1) ar.length 146) (mCs (ar ++ [(nm, z)])) (Builtin.zeroCells (Value.agg #[.string ⟨#[]⟩, .int .i64 0]).cells (grownCap w (ar.length + 1) ar.length 146 - (ar.length + 1))) rfl (grownCap_ge _ _ _ _)
    rw [mCs_snoc] at this
    simpa using this
theorem step_append_m (w : World) {ops : Array Oper} {o : Oper} {a : Act} {K : Act → World → Prop} {Q : Exit → Act → World → Prop} {E : Prop} (hgd : o.guard = none) (s x : Operand)
    (ho : o.op = .call { callee := .builtin .append, args := #[s, x], argTypes := #[142, 142] })
    (ar : Ar) (aa : Option Addr) (pg : Nat) (row : Option Nat) (nm : ByteArray) (z g c : Nat) (hs : a.eval s = .slice aa ar.length ar.length) (hx : a.eval x = .slice (some ⟨g, 0, none⟩) 1 c)
    (h : MR w pg row ar aa ar.length) (hl : ar.length ≤ 1000) (hg0 : w.cell? ⟨g, 0, none⟩ = some (.string nm)) (hg1 : w.cell? ⟨g, 1, none⟩ = some (.int .i64 (z : Int))) (hpg : pg < w.heap.size) (hrow : ∀ k, row = some k → k < w.heap.size)
    (hK : ∀ aa' ca' w', MR w' pg row (ar ++ [(nm, z)]) aa' ca' → Below w.heap.size w w' → K (a.put o.dst (.slice aa' (ar.length + 1) ca')) w') :
    if Region.wanted o (yielded ops a.tmps) = true then Oper.wp Tryd.prog o a w K Q else E := by
  have hw : Region.wanted o (yielded ops a.tmps) = true := by simp [Region.wanted, hgd]
  rw [if_pos hw]
  obtain ⟨aa', ca', w', hr, h2, h3⟩ := run_append_m w o.type ar aa pg row nm z g c h hl hg0 hg1 hpg hrow
  unfold Oper.wp execOp
  simp only [ho, resolve, invoke, builtin, Sem.run_bind, Sem.run_pure, Result.andThen_ok, List.map_toArray, List.map_cons, List.map_nil, hs, hx, hr]
  exact hK aa' ca' w' h2 h3
/-- a row of nodes behind a pointer -/
structure PG (W : World) (pg : Nat) (u : Value) (toks : List TkN) : Prop where
  c : W.cell? ⟨pg, 0, none⟩ = some u
  f : W.frozen? ⟨pg, 0, none⟩ = false
  own : W.ownsRow (pg + 1) 29 4 u toks.length (ndCs toks)
  lt : pg < W.heap.size
theorem PG.keep {W W' : World} {pg : Nat} {u : Value} {toks : List TkN} (h : PG W pg u toks) (hb : Below W.heap.size W W') : PG W' pg u toks :=
  ⟨(hb.cell (p := ⟨pg, 0, none⟩) h.lt).trans h.c, (hb.frozen (p := ⟨pg, 0, none⟩) h.lt).trans h.f, own_belowG h.own hb, Nat.lt_of_lt_of_le h.lt hb.size⟩
/-- nodes that are laid: their labels are the type's, their To in blocks of which P holds -/
def TKL (W : World) (B : Nat) (P : Nat → Prop) (ts : List TkN) : Prop := ∀ t ∈ ts, LA W B t.1.labs t.2.1.1 ∧ NP W P (t.1.to.map fun t : Nat => Value.int .i64 (t : Int)) t.2.2.1
theorem TKL.keep {W W' : World} {B : Nat} {P Q : Nat → Prop} {ts : List TkN} (hb : Below B W W') (hc : ∀ b o, P b → W'.cell? ⟨b, o, none⟩ = W.cell? ⟨b, o, none⟩) (hq : ∀ b, P b → Q b) (h : TKL W B P ts) : TKL W' B Q ts := fun t ht => ⟨(h t ht).1.keep hb, (h t ht).2.keep hc hq⟩
/-- what lay leaves -/
def LYPost (t : Ty) (ar : Ar) (pg : Nat) (u : Value) (toks : List TkN) (B : Nat) (w : World) (e : Ending) (w' : World) : Prop :=
  e = .returned (.int .i64 ((layP t ar toks.length).1 : Int)) ∧ ∃ (new : List TkN) (u' : Value), new.map (·.1) = (layP t ar toks.length).2 ∧ PG w' pg u' (toks ++ new) ∧ TKL w' B (fun b => w.heap.size ≤ b ∧ b < w'.heap.size ∧ u'.ownBlock ≠ some b) new ∧ RF pg pg u.ownBlock w w' ∧ (u'.ownBlock = u.ownBlock ∨ ∀ k, u'.ownBlock = some k → w.heap.size ≤ k)
def LYSaid (d : Nat) : Prop := ∀ (t : Ty) (al : Option Addr) (cl : Nat) (ak : Option Addr) (ck : Nat) (ar : Ar) (aa : Option Addr) (ca pg : Nat) (u : Value) (toks : List TkN) (B : Nat) (w : World),
  TyBd t cl ck → LA w B t.labels al → KT w B d t.kids ak → wfT t → MR w pg u.ownBlock ar aa ca → PG w pg u toks → B ≤ pg → sizeT t + toks.length ≤ 900 → ar.length + sizeT t ≤ 900 →
  Calls Tryd.prog 47 #[.pointer (some ⟨pg, 0, none⟩), tyVal t al cl ak ck, .slice aa ar.length ca] w (LYPost t ar pg u toks B w)
end Go.Proofs.YtnedgkcejlhnbaaDoor
