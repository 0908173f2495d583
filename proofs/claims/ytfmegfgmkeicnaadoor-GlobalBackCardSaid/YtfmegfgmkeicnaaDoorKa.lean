/-
  Types as data: a type with its labels and its Kids, how it lies in memory, and that every type handed in lies so.
-/
import Derived.Test.YtfmegfgmkeicnaaDoorNa
import Derived.Test.YtfmegfgmkeicnaaDoorEo
import Derived.Deep.Slices
import Derived.OpenShut
namespace Go.Proofs.YtfmegfgmkeicnaaDoor
open Go.RowKit Go.Deep Go.Joins Go.ChangeShapes Go.WideShapes

structure Ty where
  kind : Int
  so : Int
  name : ByteArray
  labels : List ByteArray
  kids : List Ty
def sizeT : Ty → Nat
  | ⟨_, _, _, _, ks⟩ => 1 + (ks.map sizeT).sum
theorem sizeT_eq (t : Ty) : sizeT t = 1 + (t.kids.map sizeT).sum := by cases t; rw [sizeT]
theorem sizeT_kid {t k : Ty} (h : k ∈ t.kids) : sizeT k < sizeT t := by
  rw [sizeT_eq t]
  have : ∀ l : List Ty, k ∈ l → sizeT k ≤ (l.map sizeT).sum := by
    intro l
    induction l with
    | nil => intro h; cases h
    | cons a l ih =>
      intro h
      simp only [List.map_cons, List.sum_cons]
      rcases List.mem_cons.1 h with rfl | h
      · omega
      · have := ih h; omega
  have := this _ h
  omega
/-- what holds of a type where it holds of its Kids holds of all -/
theorem tyInd {P : Ty → Prop} (h : ∀ t, (∀ k ∈ t.kids, P k) → P t) : ∀ t, P t := by
  have : ∀ n t, sizeT t ≤ n → P t := by
    intro n
    induction n with
    | zero => intro t ht; have := sizeT_eq t; omega
    | succ n ih => intro t ht; exact h t (fun k hk => ih k (by have := sizeT_kid hk; omega))
  exact fun t => this _ t (Nat.le_refl _)

/-- the five cells of a type -/
structure TyAt (W : World) (b o : Nat) (t : Ty) (al : Option Addr) (cl : Nat) (ak : Option Addr) (ck : Nat) : Prop where
  c0 : W.cell? ⟨b, o, none⟩ = some (.int .i64 t.kind)
  c1 : W.cell? ⟨b, o + 1, none⟩ = some (.int .i64 t.so)
  c2 : W.cell? ⟨b, o + 2, none⟩ = some (.string t.name)
  c3 : W.cell? ⟨b, o + 3, none⟩ = some (.slice al t.labels.length cl)
  c4 : W.cell? ⟨b, o + 4, none⟩ = some (.slice ak t.kids.length ck)
/-- what fits into a word -/
structure TyBd (t : Ty) (cl ck : Nat) : Prop where
  name : t.name.size ≤ 9223372036854775807
  labs : ∀ l ∈ t.labels, l.size ≤ 9223372036854775807
  labels : t.labels.length ≤ cl
  cl : cl ≤ 9223372036854775807
  kids : t.kids.length ≤ ck
  ck : ck ≤ 9223372036854775807
/-- a list of names lies below block B -/
abbrev LA (W : World) (B : Nat) (ls : List ByteArray) (al : Option Addr) : Prop := NAt W B (ls.map Value.string) al
/-- a list of types, of so many levels at most, lies below block B -/
def KT (W : World) (B : Nat) : Nat → List Ty → Option Addr → Prop
  | 0, ks, _ => ks = []
  | d + 1, ks, ak => ks = [] ∨ ∃ b o, ak = some ⟨b, o, none⟩ ∧ b < B ∧ ∀ i (h : i < ks.length), ∃ al cl ak' ck', TyAt W b (o + i * 5) ks[i] al cl ak' ck' ∧ TyBd ks[i] cl ck' ∧ LA W B ks[i].labels al ∧ KT W B d ks[i].kids ak'

theorem NAt.keep {W W' : World} {B : Nat} {vs : List Value} {an : Option Addr} (hb : Below B W W') (h : NAt W B vs an) : NAt W' B vs an :=
  h.imp id fun ⟨b, o, e, hl, hc⟩ => ⟨b, o, e, hl, fun i hi => (hb.cell (p := ⟨b, o + i, none⟩) hl).trans (hc i hi)⟩
theorem NAt.mono {W : World} {B B' : Nat} {vs : List Value} {an : Option Addr} (hB : B ≤ B') (h : NAt W B vs an) : NAt W B' vs an :=
  h.imp id fun ⟨b, o, e, hl, hc⟩ => ⟨b, o, e, by omega, hc⟩
theorem TyAt.keep {W W' : World} {B b o : Nat} {t : Ty} {al : Option Addr} {cl : Nat} {ak : Option Addr} {ck : Nat} (h : TyAt W b o t al cl ak ck) (hb : Below B W W') (hl : b < B) : TyAt W' b o t al cl ak ck :=
  ⟨(hb.cell (p := ⟨b, o, none⟩) hl).trans h.c0, (hb.cell (p := ⟨b, o + 1, none⟩) hl).trans h.c1, (hb.cell (p := ⟨b, o + 2, none⟩) hl).trans h.c2, (hb.cell (p := ⟨b, o + 3, none⟩) hl).trans h.c3, (hb.cell (p := ⟨b, o + 4, none⟩) hl).trans h.c4⟩
theorem KT.keep {W W' : World} {B : Nat} (hb : Below B W W') : ∀ {d : Nat} {ks : List Ty} {ak : Option Addr}, KT W B d ks ak → KT W' B d ks ak
  | 0, _, _, h => h
  | d + 1, ks, ak, h => by
    rcases h with h | ⟨b, o, rfl, hl, h⟩
    · exact .inl h
    · exact .inr ⟨b, o, rfl, hl, fun i hi => by
        obtain ⟨al, cl, ak', ck', h1, h2, h3, h4⟩ := h i hi
        exact ⟨al, cl, ak', ck', h1.keep hb hl, h2, NAt.keep hb h3, KT.keep hb h4⟩⟩
theorem KT.mono {W : World} {B B' : Nat} (hB : B ≤ B') : ∀ {d : Nat} {ks : List Ty} {ak : Option Addr}, KT W B d ks ak → KT W B' d ks ak
  | 0, _, _, h => h
  | d + 1, ks, ak, h => by
    rcases h with h | ⟨b, o, rfl, hl, h⟩
    · exact .inl h
    · exact .inr ⟨b, o, rfl, by omega, fun i hi => by
        obtain ⟨al, cl, ak', ck', h1, h2, h3, h4⟩ := h i hi
        exact ⟨al, cl, ak', ck', h1, h2, NAt.mono hB h3, KT.mono hB h4⟩⟩
theorem KT.up {W : World} {B : Nat} : ∀ {d e : Nat} {ks : List Ty} {ak : Option Addr}, d ≤ e → KT W B d ks ak → KT W B e ks ak
  | 0, 0, _, _, _, h => h
  | 0, e + 1, _, _, _, h => .inl h
  | d + 1, 0, _, _, hd, _ => by omega
  | d + 1, e + 1, ks, ak, hd, h => by
    rcases h with h | ⟨b, o, rfl, hl, h⟩
    · exact .inl h
    · exact .inr ⟨b, o, rfl, hl, fun i hi => by
        obtain ⟨al, cl, ak', ck', h1, h2, h3, h4⟩ := h i hi
        exact ⟨al, cl, ak', ck', h1, h2, h3, KT.up (by omega) h4⟩⟩

/-- a type as a value -/
def tyVal (t : Ty) (al : Option Addr) (cl : Nat) (ak : Option Addr) (ck : Nat) : Value := .agg #[.int .i64 t.kind, .int .i64 t.so, .string t.name, .slice al t.labels.length cl, .slice ak t.kids.length ck]

section
variable {H : Type} {enc : TypeId × Value → H} {W : World} {base : Nat} {spare : Nat → Bool} {held : Bool}
theorem cellsT : Tryd.prog.cellsOf 45 = 5 := by kernel_rfl
set_option maxRecDepth 100000 in
theorem openLabs (fuel : Nat) (v : Value) (y : DataW H × List MemPlace) (h : DataW.trod enc Tryd.prog W base spare held fuel 22 [v] = some y) :
    ∃ (ls : List ByteArray) (al : Option Addr) (cl : Nat), v = .slice al ls.length cl ∧ (∀ l ∈ ls, l.size ≤ 9223372036854775807) ∧ ls.length ≤ cl ∧ cl ≤ 9223372036854775807 ∧ LA W W.heap.size ls al := by
  rcases DataW.trod_slice Tryd.underlying22 h with ⟨e5, _⟩ | ⟨a, len, cap, elems, rest, k, hk, e5, hx, hb, hlc, hcm, hle, hel, _, _⟩
  · simp at e5
    subst e5
    exact ⟨[], none, 0, rfl, fun l hl => (by cases hl), Nat.le_refl _, by omega, .inl rfl⟩
  · simp at e5
    subst e5
    rw [cellsSt] at hel
    unfold maxLen at hcm
    have hall : ∀ i, i < len → ∃ s : ByteArray, W.cells? base (a.add (i * 1)) 1 = some [.string s] ∧ s.size ≤ 9223372036854775807 := by
      intro i hi
      have q := hel i hi
      rw [List.getElem?_eq_getElem (by omega)] at q
      obtain ⟨cs', q1, q2⟩ := Option.bind_eq_some_iff.1 q
      obtain ⟨s, e1, _, ws⟩ := DataW.trod_string Tryd.underlying9 q2
      subst e1
      unfold maxLen at ws
      exact ⟨s, q1, by omega⟩
    haveI : Inhabited ByteArray := ⟨⟨#[]⟩⟩
    obtain ⟨f, hf⟩ := choose_lt hall
    refine ⟨(List.range len).map f, some a, cap, by simp, ?_, by simpa using hlc, by omega, ?_⟩
    · intro l hl
      obtain ⟨i, hi, rfl⟩ := List.mem_map.1 hl
      exact (hf i (by simpa using hi)).2
    by_cases hl0 : len = 0
    · exact .inl (by simp [hl0])
    · have q2 := (World.cells?_some (hf 0 (by omega)).1).2.2 0 (by omega)
      obtain ⟨b, o, spot⟩ := a
      have hsp : spot = none := by simpa [Addr.add] using World.cell?_spot q2
      subst hsp
      have hcell : ∀ i, i < len → W.cell? ⟨b, o + i, none⟩ = some (Value.string (f i)) := by
        intro i hi
        have := (World.cells?_some (hf i hi).1).2.2 0 (by omega)
        rw [add_add, Go.WideShapes.add_plain] at this
        simpa using this
      refine .inr ⟨b, o, rfl, lt_of_cell ((hcell 0 (by omega)).trans rfl), fun i hi => ?_⟩
      have hi' : i < len := by simpa using hi
      rw [hcell i hi']
      simp
set_option maxRecDepth 100000 in
theorem openCellsT : ∀ (fuel : Nat) (cs : List Value) (y : DataW H × List MemPlace), DataW.trod enc Tryd.prog W base spare held fuel 45 cs = some y →
    ∃ (t : Ty) (al : Option Addr) (cl : Nat) (ak : Option Addr) (ck : Nat), cs = [.int .i64 t.kind, .int .i64 t.so, .string t.name, .slice al t.labels.length cl, .slice ak t.kids.length ck] ∧ TyBd t cl ck ∧ LA W W.heap.size t.labels al ∧ KT W W.heap.size fuel t.kids ak := by
  intro fuel
  induction fuel using Nat.strongRecOn with
  | _ fuel ih =>
    intro cs y h
    obtain ⟨xs, n, rfl, hy, hlen, hxs, hf⟩ := DataW.trod_struct Tryd.underlying45 h
    have h0 : DataW.trod enc Tryd.prog W base spare held n 3 (List.take 1 (List.drop 0 cs)) = xs[0]? := hf 0 _ rfl
    have h1 : DataW.trod enc Tryd.prog W base spare held n 3 (List.take 1 (List.drop 1 cs)) = xs[1]? := hf 1 _ rfl
    have h2 : DataW.trod enc Tryd.prog W base spare held n 9 (List.take 1 (List.drop 2 cs)) = xs[2]? := hf 2 _ rfl
    have h3 : DataW.trod enc Tryd.prog W base spare held n 22 (List.take 1 (List.drop 3 cs)) = xs[3]? := hf 3 _ rfl
    have h4 : DataW.trod enc Tryd.prog W base spare held n 43 (List.take 1 (List.drop 4 cs)) = xs[4]? := hf 4 _ rfl
    clear hf hy
    rw [cellsT] at hlen
    match cs, hlen with
    | [a0, a1, a2, a3, a4], _ =>
    match xs, hxs with
    | [x0, x1, x2, x3, x4], _ =>
    simp at h0 h1 h2 h3 h4
    obtain ⟨kd, e0, _, _⟩ := DataW.trod_int Tryd.underlying3 h0
    obtain ⟨so, e1, _, _⟩ := DataW.trod_int Tryd.underlying3 h1
    obtain ⟨nm, e2, _, wn⟩ := DataW.trod_string Tryd.underlying9 h2
    obtain ⟨ls, al, cl, rfl, hls, hlc1, hlc2, hla⟩ := openLabs n _ _ h3
    simp at e0 e1 e2
    subst e0 e1 e2
    unfold maxLen at wn
    rcases DataW.trod_slice Tryd.underlying43 h4 with ⟨e5, _⟩ | ⟨a, len, cap, elems, rest, k, hk, e5, _, hb, hlc, hcm, hle, hel, _, _⟩
    · simp at e5
      subst e5
      exact ⟨⟨kd, so, nm, ls, []⟩, al, cl, none, 0, rfl, ⟨by simpa using wn, hls, hlc1, hlc2, by simp, by omega⟩, hla, .inl rfl⟩
    · simp at e5
      subst e5
      rw [cellsT] at hel
      unfold maxLen at hcm
      have hall : ∀ i, i < len → ∃ p : Ty × Option Addr × Nat × Option Addr × Nat, W.cells? base (a.add (i * 5)) 5 = some [.int .i64 p.1.kind, .int .i64 p.1.so, .string p.1.name, .slice p.2.1 p.1.labels.length p.2.2.1, .slice p.2.2.2.1 p.1.kids.length p.2.2.2.2] ∧ TyBd p.1 p.2.2.1 p.2.2.2.2 ∧ LA W W.heap.size p.1.labels p.2.1 ∧ KT W W.heap.size k p.1.kids p.2.2.2.1 := by
        intro i hi
        have q := hel i hi
        rw [List.getElem?_eq_getElem (by omega)] at q
        obtain ⟨cs', q1, q2⟩ := Option.bind_eq_some_iff.1 q
        obtain ⟨t, al', cl', ak', ck', rfl, hb', hl', hk'⟩ := ih k (by omega) cs' _ q2
        exact ⟨(t, al', cl', ak', ck'), q1, hb', hl', hk'⟩
      haveI : Inhabited (Ty × Option Addr × Nat × Option Addr × Nat) := ⟨(⟨0, 0, ⟨#[]⟩, [], []⟩, none, 0, none, 0)⟩
      obtain ⟨f, hf⟩ := choose_lt hall
      refine ⟨⟨kd, so, nm, ls, (List.range len).map fun i => (f i).1⟩, al, cl, some a, cap, by simp, ⟨by simpa using wn, hls, hlc1, hlc2, by simpa using hlc, hcm⟩, hla, ?_⟩
      obtain ⟨n', rfl⟩ : ∃ n', n = n' + 1 := ⟨n - 1, by omega⟩
      by_cases hl0 : len = 0
      · exact .inl (by simp [hl0])
      · obtain ⟨q1, _, _⟩ := hf 0 (by omega)
        have q2 := (World.cells?_some q1).2.2 0 (by omega)
        obtain ⟨b, o, spot⟩ := a
        have hsp : spot = none := by simpa [Addr.add] using World.cell?_spot q2
        subst hsp
        have hcell : ∀ i j, i < len → j < 5 → W.cell? ⟨b, o + i * 5 + j, none⟩ = [Value.int .i64 (f i).1.kind, .int .i64 (f i).1.so, .string (f i).1.name, .slice (f i).2.1 (f i).1.labels.length (f i).2.2.1, .slice (f i).2.2.2.1 (f i).1.kids.length (f i).2.2.2.2][j]? := by
          intro i j hi hj
          obtain ⟨q1, _, _⟩ := hf i hi
          have := (World.cells?_some q1).2.2 j hj
          rw [add_add, Go.WideShapes.add_plain] at this
          rw [Nat.add_assoc]; exact this
        refine .inr ⟨b, o, rfl, lt_of_cell ((hcell 0 0 (by omega) (by omega)).trans rfl), fun i hi => ?_⟩
        have hi' : i < len := by simpa using hi
        have e : ((List.range len).map fun i => (f i).1)[i] = (f i).1 := by simp
        simp only [e]
        exact ⟨(f i).2.1, (f i).2.2.1, (f i).2.2.2.1, (f i).2.2.2.2, ⟨(hcell i 0 hi' (by omega)).trans rfl, (hcell i 1 hi' (by omega)).trans rfl, (hcell i 2 hi' (by omega)).trans rfl, (hcell i 3 hi' (by omega)).trans rfl, (hcell i 4 hi' (by omega)).trans rfl⟩, (hf i hi').2.1, (hf i hi').2.2.1, KT.up (by omega) (hf i hi').2.2.2⟩
set_option maxRecDepth 100000 in
/-- a type that is handed in -/
theorem openType {r : Reach} {b0 : Nat} {v : Value} {d : DataW H} {p : List MemPlace} (hv : Value.okWide Tryd.prog W r b0 45 v) (h : DataW.Trod enc Tryd.prog W base spare held 45 v d p) :
    ∃ (t : Ty) (al : Option Addr) (cl : Nat) (ak : Option Addr) (ck dp : Nat), v = tyVal t al cl ak ck ∧ TyBd t cl ck ∧ LA W W.heap.size t.labels al ∧ KT W W.heap.size dp t.kids ak := by
  obtain ⟨cs, rfl, hsz⟩ := okWide_struct Tryd.underlying45 hv
  obtain ⟨fuel, hf⟩ := h
  obtain ⟨t, al, cl, ak, ck, e, h1, h2, h3⟩ := openCellsT fuel _ _ hf
  refine ⟨t, al, cl, ak, ck, fuel, ?_, h1, h2, h3⟩
  unfold tyVal
  congr 1
  apply Array.toList_inj.1
  simpa [Value.cells] using e
end
end Go.Proofs.YtfmegfgmkeicnaaDoor
