/-
  The contracts of slices.Clip and slices.Contains of names, of append of a name, of types.checkParts and types.Check, for every type.
-/
import Derived.Test.YtfmegfgmkeicnaaDoorKb
import Derived.Test.YtfmegfgmkeicnaaDoorEo
import Derived.Test.YtfmegfgmkeicnaaDoorPj
import Derived.Deep.DeepCutAuto
import Derived.Deep.RegionHeld3
namespace Go.Proofs.YtfmegfgmkeicnaaDoor
open Go.RowKit Go.Shelf

/-- nothing but block pb has changed, and new memory -/
abbrev FR (pb : Nat) (w w' : World) : Prop := w.grownBy w' (some pb)
theorem FR.of {pb : Nat} {w w' : World} (h : Below w.heap.size w w') : FR pb w w' := ⟨h.os, h.tape, h.output, h.size, fun k hk _ => h.block k hk⟩
theorem FR.trans {pb : Nat} {a b c : World} (h : FR pb a b) (k : FR pb b c) : FR pb a c :=
  ⟨k.os.trans h.os, k.tape.trans h.tape, k.output.trans h.output, Nat.le_trans h.size k.size, fun i hi hn => (k.block i (Nat.lt_of_lt_of_le hi h.size) hn).trans (h.block i hi hn)⟩
theorem FR.set {pb : Nat} {w : World} (v : Value) : FR pb w (w.setCell ⟨pb, 0, none⟩ v) :=
  ⟨rfl, rfl, rfl, by simp, fun k _ hn => Below.heap_setCell w _ v k (fun e => hn (by rw [e]))⟩
theorem FR.al {pb : Nat} {w : World} (o : Obj) : FR pb w (w.alloc o) := FR.of ((Below.refl _ _).alloc (Nat.le_refl _) o)
theorem FR.below {pb : Nat} {w w' : World} (h : FR pb w w') (hp : pb ≤ w.heap.size) : Below pb w w' :=
  ⟨h.os, h.tape, h.output, h.size, fun k hk => h.block k (by omega) (fun e => by injection e with e; omega)⟩
theorem FR.cellO {pb : Nat} {w w' : World} (h : FR pb w w') {b o : Nat} (hb : b < w.heap.size) (hn : b ≠ pb) : w'.cell? ⟨b, o, none⟩ = w.cell? ⟨b, o, none⟩ :=
  World.cell?_of_block (a := ⟨b, o, none⟩) (h.block b hb (fun e => hn (by injection e)))

/-- the names around lie in a block that is not pb -/
def AR (W : World) (pb : Nat) (ns : List ByteArray) (aa : Option Addr) (ca : Nat) : Prop :=
  (ns = [] ∧ aa = none ∧ ca = 0) ∨ (ns.length ≤ ca ∧ ∃ b o, aa = some ⟨b, o, none⟩ ∧ b < W.heap.size ∧ b ≠ pb ∧ ∀ i (h : i < ns.length), W.cell? ⟨b, o + i, none⟩ = some (.string ns[i]))
theorem AR.keep {W W' : World} {pb : Nat} {ns : List ByteArray} {aa : Option Addr} {ca : Nat} (h : AR W pb ns aa ca) (hf : FR pb W W') : AR W' pb ns aa ca :=
  h.imp id fun ⟨hc, b, o, e, hl, hn, hcell⟩ => ⟨hc, b, o, e, Nat.lt_of_lt_of_le hl hf.size, hn, fun i hi => (hf.cellO hl hn).trans (hcell i hi)⟩

theorem AR.clip {W : World} {pb : Nat} {ns : List ByteArray} {aa : Option Addr} {ca : Nat} (h : AR W pb ns aa ca) : AR W pb ns aa ns.length := by
  rcases h with ⟨rfl, rfl, _⟩ | ⟨_, h⟩
  · exact .inl ⟨rfl, rfl, rfl⟩
  · exact .inr ⟨Nat.le_refl _, h⟩
def hasN (ns : List ByteArray) (x : ByteArray) : Bool := ns.any (fun y => decide (y = x))
theorem hasN_iff (ns : List ByteArray) (x : ByteArray) : hasN ns x = true ↔ x ∈ ns := by
  unfold hasN
  rw [List.any_eq_true]
  constructor
  · rintro ⟨y, hy, e⟩; rw [decide_eq_true_eq] at e; rw [← e]; exact hy
  · intro h; exact ⟨x, h, by simp⟩
theorem containsA_any (ns : List ByteArray) (x : ByteArray) (aa : Option Addr) (ca pb : Nat) (w : World) (h : AR w pb ns aa ca) (hl : ns.length ≤ 60) :
    Calls Tryd.prog 14 #[.slice aa ns.length ca, .string x] w fun e w' => e = .returned (.bool (hasN ns x)) ∧ w' = w := by
  rcases h with ⟨rfl, rfl, rfl⟩ | ⟨_, b, o, rfl, _, _, hc⟩
  · refine (Any.slices_Contains_string_empty Tryd.lays110 none 0 x w).mono fun e w' ⟨h1, h2⟩ => ⟨?_, h2⟩
    rw [h1]; rfl
  · refine (Any.slices_Contains_string Tryd.lays110 b o ns.length ca ns x w (by simp) (by omega) ?_).mono fun e w' ⟨h1, h2⟩ => ⟨?_, h2⟩
    · intro j hj
      rw [hc j hj]
      simp [List.getD_eq_getElem?_getD, hj]
    · rw [h1]
      congr 2
      rw [List.take_of_length_le (by simp)]
      rw [Bool.eq_iff_iff, Lib.containsS_iff, hasN_iff]
set_option maxHeartbeats 400000 in
theorem clip_any (ns : List ByteArray) (aa : Option Addr) (ca pb : Nat) (w0 w : World) (h : AR w0 pb ns aa ca) (hl : ns.length ≤ 60) :
    Calls Tryd.prog 121 #[.slice aa ns.length ca] w fun e w' => e = .returned (.slice aa ns.length ns.length) ∧ w' = w := by
  have hz : (ns.length : Int) ≤ 60 := by omega
  rcases h with ⟨rfl, rfl, rfl⟩ | ⟨hc, b, o, rfl, _, _, _⟩
  · go_enter Tryd.func121, Tryd.ntmps121
    go_wp2_with fail
    go_ret
    exact ⟨rfl, rfl⟩
  · have hcz : (ns.length : Int) ≤ (ca : Int) := by omega
    go_enter Tryd.func121, Tryd.ntmps121
    go_wp2_with fail
    go_ret
    exact ⟨rfl, rfl⟩
theorem infoSt : (Tryd.prog.info? 9).map (fun i => (i.zero, i.size, i.bytes)) = some (some (.string ⟨#[]⟩), 1, 16) := by kernel_rfl
theorem addj0 (g j : Nat) : (Addr.add ⟨g, 0, none⟩ j) = ⟨g, j, none⟩ := by unfold Addr.add; split <;> simp_all
theorem addjo (g o j : Nat) : (Addr.add ⟨g, o, none⟩ j) = ⟨g, o + j, none⟩ := by unfold Addr.add; split <;> simp_all
/-- append of one name onto names that have no room left -/
theorem run_append_name (w : World) (ty : TypeId) (ns : List ByteArray) (aa : Option Addr) (pb : Nat) (nm : ByteArray) (g c : Nat) (h : AR w pb ns aa ns.length) (hl : ns.length ≤ 60) (hg : w.cell? ⟨g, 0, none⟩ = some (.string nm)) (hpb : pb < w.heap.size) :
    ∃ aa' ca' w', (Builtin.append_ #[22, 22] ty #[.slice aa ns.length ns.length, .slice (some ⟨g, 0, none⟩) 1 c]).run Tryd.prog w = .ok (.slice aa' (ns.length + 1) ca') w' ∧ AR w' pb (ns ++ [nm]) aa' ca' ∧ Below w.heap.size w w' := by
  obtain ⟨i, hi, hz0, hz1, hz2⟩ := info_parts infoSt
  have hnews : ∀ j v, [Value.string nm][j]? = some v → w.cell? ((⟨g, 0, none⟩ : Addr).add j) = some v := by
    intro j v hj
    match j, hj with
    | 0, hj => simp at hj; subst hj; rw [addj0]; exact hg
    | j + 1, hj => simp at hj
  have hfin : ∀ (cap : Nat) (cs : List Value) (rest : Array Value), cs = (ns ++ [nm]).map Value.string → ns.length + 1 ≤ cap → AR (w.drew.alloc (.cells (cs.toArray ++ rest) 9)) pb (ns ++ [nm]) (some ⟨w.heap.size, 0, none⟩) cap := by
    intro cap cs rest hcs hcap
    refine .inr ⟨by simpa using hcap, w.heap.size, 0, rfl, by simp, by omega, fun k hk => ?_⟩
    have hk' : k < cs.length := by rw [hcs]; simpa using hk
    have e1 : (w.drew.alloc (.cells (cs.toArray ++ rest) 9)).cell? ⟨w.heap.size, 0 + k, none⟩ = (cs.toArray ++ rest)[k]? := by
      rw [Nat.zero_add]
      exact World.cell?_alloc_at _ _ _ _ rfl
    rw [e1, Array.getElem?_append_left (by simpa using hk')]
    simp only [List.getElem?_toArray]
    rw [List.getElem?_eq_getElem hk']
    simp only [hcs, List.getElem_map]
  rcases h with ⟨rfl, rfl, _⟩ | ⟨_, b, o, rfl, _, _, hc⟩
  · have hr := run_append_nil (P := Tryd.prog) w 22 ty 9 i _ Tryd.underlying22 hi hz0 ⟨g, 0, none⟩ 1 c [.string nm] (by rw [hz1]; rfl) hnews (by omega) (by omega) (by rw [hz2]; omega)
    refine ⟨_, _, _, hr, ?_, ((Below.refl _ _).drew).alloc (by simp) _⟩
    exact hfin _ [.string nm] _ rfl (grownCap_ge _ _ _ _)
  · have hr := run_append_grow (P := Tryd.prog) w 22 ty 9 i _ Tryd.underlying22 hi hz0 ⟨b, o, none⟩ ns.length ns.length (ns.map Value.string) (by rw [hz1]; simp) (fun j v hj => by
        rw [addjo]
        by_cases hjl : j < ns.length
        · rw [hc j hjl, ← hj]; simp [hjl]
        · rw [List.getElem?_eq_none (by simp; omega)] at hj; cases hj) ⟨g, 0, none⟩ 1 c [.string nm] (by rw [hz1]; rfl) hnews (by omega) (by omega) (growslice_fits (by omega) (by rw [hz2]; omega))
    refine ⟨_, _, _, hr, ?_, ((Below.refl _ _).drew).alloc (by simp) _⟩
    have := hfin (grownCap w (ns.length + 1) ns.length 9) ((ns ++ [nm]).map Value.string) (Builtin.zeroCells (Value.string ⟨#[]⟩).cells (grownCap w (ns.length + 1) ns.length 9 - (ns.length + 1))) rfl (grownCap_ge _ _ _ _)
    simpa using this
theorem step_append_name (w : World) {ops : Array Oper} {o : Oper} {a : Act} {K : Act → World → Prop} {Q : Exit → Act → World → Prop} {E : Prop} (hgd : o.guard = none) (s x : Operand)
    (ho : o.op = .call { callee := .builtin .append, args := #[s, x], argTypes := #[22, 22] })
    (ns : List ByteArray) (aa : Option Addr) (pb : Nat) (nm : ByteArray) (g c : Nat) (hs : a.eval s = .slice aa ns.length ns.length) (hx : a.eval x = .slice (some ⟨g, 0, none⟩) 1 c)
    (h : AR w pb ns aa ns.length) (hl : ns.length ≤ 60) (hg : w.cell? ⟨g, 0, none⟩ = some (.string nm)) (hpb : pb < w.heap.size)
    (hK : ∀ aa' ca' w', AR w' pb (ns ++ [nm]) aa' ca' → Below w.heap.size w w' → K (a.put o.dst (.slice aa' (ns.length + 1) ca')) w') :
    if Region.wanted o (yielded ops a.tmps) = true then Oper.wp Tryd.prog o a w K Q else E := by
  have hw : Region.wanted o (yielded ops a.tmps) = true := by simp [Region.wanted, hgd]
  rw [if_pos hw]
  obtain ⟨aa', ca', w', hr, h2, h3⟩ := run_append_name w o.type ns aa pb nm g c h hl hg hpb
  unfold Oper.wp execOp
  simp only [ho, resolve, invoke, builtin, Sem.run_bind, Sem.run_pure, Result.andThen_ok, List.map_toArray, List.map_cons, List.map_nil, hs, hx, hr]
  exact hK aa' ca' w' h2 h3
end Go.Proofs.YtfmegfgmkeicnaaDoor
