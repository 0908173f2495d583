/-
  A conversation as data: how it lies in memory, and that each one that is handed in lies so.
-/
import Derived.Test.YtfmegfgmkeicnaaDoorCva
import Derived.Test.YtfmegfgmkeicnaaDoorKa
import Derived.Test.YtfmegfgmkeicnaaDoorEo
import Derived.Deep.Slices
import Derived.OpenShut
namespace Go.Proofs.YtfmegfgmkeicnaaDoor
open Go.RowKit Go.Deep Go.Joins Go.ChangeShapes Go.WideShapes

/-- its cells -/
structure CvAt (W : World) (b o : Nat) (t : Cv) (al : Option Addr) (cl : Nat) (ak : Option Addr) (ck : Nat) : Prop where
  c0 : W.cell? ⟨b, o, none⟩ = some (.int .i64 t.kind)
  c1 : W.cell? ⟨b, o + 1, none⟩ = some (.string t.fm)
  c2 : W.cell? ⟨b, o + 2, none⟩ = some (.string t.tt)
  c3 : W.cell? ⟨b, o + 3, none⟩ = some (.int .i64 t.so)
  c4 : W.cell? ⟨b, o + 4, none⟩ = some (.string t.name)
  c5 : W.cell? ⟨b, o + 5, none⟩ = some (.slice al t.labels.length cl)
  c6 : W.cell? ⟨b, o + 6, none⟩ = some (.slice ak t.kids.length ck)
/-- what fits into a word -/
structure CvBd (t : Cv) (cl ck : Nat) : Prop where
  fm : t.fm.size ≤ 9223372036854775807
  tt : t.tt.size ≤ 9223372036854775807
  name : t.name.size ≤ 9223372036854775807
  labs : ∀ l ∈ t.labels, l.size ≤ 9223372036854775807
  labels : t.labels.length ≤ cl
  cl : cl ≤ 9223372036854775807
  kids : t.kids.length ≤ ck
  ck : ck ≤ 9223372036854775807
/-- a list of them, of so many levels at most, lies below block B -/
def KCv (W : World) (B : Nat) : Nat → List Cv → Option Addr → Prop
  | 0, ks, _ => ks = []
  | d + 1, ks, ak => ks = [] ∨ ∃ b o, ak = some ⟨b, o, none⟩ ∧ b < B ∧ ∀ i (h : i < ks.length), ∃ al cl ak' ck', CvAt W b (o + i * 7) ks[i] al cl ak' ck' ∧ CvBd ks[i] cl ck' ∧ LA W B ks[i].labels al ∧ KCv W B d ks[i].kids ak'

theorem CvAt.keep {W W' : World} {B b o : Nat} {t : Cv} {al : Option Addr} {cl : Nat} {ak : Option Addr} {ck : Nat} (h : CvAt W b o t al cl ak ck) (hb : Below B W W') (hl : b < B) : CvAt W' b o t al cl ak ck :=
  ⟨(hb.cell (p := ⟨b, o, none⟩) hl).trans h.c0, (hb.cell (p := ⟨b, o + 1, none⟩) hl).trans h.c1, (hb.cell (p := ⟨b, o + 2, none⟩) hl).trans h.c2, (hb.cell (p := ⟨b, o + 3, none⟩) hl).trans h.c3, (hb.cell (p := ⟨b, o + 4, none⟩) hl).trans h.c4, (hb.cell (p := ⟨b, o + 5, none⟩) hl).trans h.c5, (hb.cell (p := ⟨b, o + 6, none⟩) hl).trans h.c6⟩
theorem KCv.keep {W W' : World} {B : Nat} (hb : Below B W W') : ∀ {d : Nat} {ks : List Cv} {ak : Option Addr}, KCv W B d ks ak → KCv W' B d ks ak
  | 0, _, _, h => h
  | d + 1, ks, ak, h => by
    rcases h with h | ⟨b, o, rfl, hl, h⟩
    · exact .inl h
    · exact .inr ⟨b, o, rfl, hl, fun i hi => by
        obtain ⟨al, cl, ak', ck', h1, h2, h3, h4⟩ := h i hi
        exact ⟨al, cl, ak', ck', h1.keep hb hl, h2, NAt.keep hb h3, KCv.keep hb h4⟩⟩
theorem KCv.mono {W : World} {B B' : Nat} (hB : B ≤ B') : ∀ {d : Nat} {ks : List Cv} {ak : Option Addr}, KCv W B d ks ak → KCv W B' d ks ak
  | 0, _, _, h => h
  | d + 1, ks, ak, h => by
    rcases h with h | ⟨b, o, rfl, hl, h⟩
    · exact .inl h
    · exact .inr ⟨b, o, rfl, by omega, fun i hi => by
        obtain ⟨al, cl, ak', ck', h1, h2, h3, h4⟩ := h i hi
        exact ⟨al, cl, ak', ck', h1, h2, NAt.mono hB h3, KCv.mono hB h4⟩⟩
theorem KCv.up {W : World} {B : Nat} : ∀ {d e : Nat} {ks : List Cv} {ak : Option Addr}, d ≤ e → KCv W B d ks ak → KCv W B e ks ak
  | 0, 0, _, _, _, h => h
  | 0, e + 1, _, _, _, h => .inl h
  | d + 1, 0, _, _, hd, _ => by omega
  | d + 1, e + 1, ks, ak, hd, h => by
    rcases h with h | ⟨b, o, rfl, hl, h⟩
    · exact .inl h
    · exact .inr ⟨b, o, rfl, hl, fun i hi => by
        obtain ⟨al, cl, ak', ck', h1, h2, h3, h4⟩ := h i hi
        exact ⟨al, cl, ak', ck', h1, h2, h3, KCv.up (by omega) h4⟩⟩

theorem kidCv {W : World} {B d : Nat} {ks : List Cv} {ak : Option Addr} (h : KCv W B d ks ak) (i : Nat) (hi : i < ks.length) : ∃ d' kb ko al' cl' ak' ck', d' < d ∧ ak = some ⟨kb, ko, none⟩ ∧ kb < B ∧ CvAt W kb (ko + i * 7) ks[i] al' cl' ak' ck' ∧ CvBd ks[i] cl' ck' ∧ LA W B ks[i].labels al' ∧ KCv W B d' ks[i].kids ak' := by
  cases d with
  | zero => simp only [KCv] at h; subst h; simp at hi
  | succ d =>
    rcases h with h | ⟨b, o, e, hl, h⟩
    · subst h; simp at hi
    · obtain ⟨al, cl, ak', ck', h1, h2, h3, h4⟩ := h i hi
      exact ⟨d, b, o, al, cl, ak', ck', by omega, e, hl, h1, h2, h3, h4⟩
/-- as a value -/
def valCv (t : Cv) (al : Option Addr) (cl : Nat) (ak : Option Addr) (ck : Nat) : Value := .agg #[.int .i64 t.kind, .string t.fm, .string t.tt, .int .i64 t.so, .string t.name, .slice al t.labels.length cl, .slice ak t.kids.length ck]
section
variable {H : Type} {enc : TypeId × Value → H} {W : World} {base : Nat} {spare : Nat → Bool} {held : Bool}
theorem cellsCv : Tryd.prog.cellsOf 25 = 7 := by kernel_rfl
set_option maxRecDepth 100000 in
theorem openCellsCv : ∀ (fuel : Nat) (cs : List Value) (y : DataW H × List MemPlace), DataW.trod enc Tryd.prog W base spare held fuel 25 cs = some y →
    ∃ (t : Cv) (al : Option Addr) (cl : Nat) (ak : Option Addr) (ck : Nat), cs = [.int .i64 t.kind, .string t.fm, .string t.tt, .int .i64 t.so, .string t.name, .slice al t.labels.length cl, .slice ak t.kids.length ck] ∧ CvBd t cl ck ∧ LA W W.heap.size t.labels al ∧ KCv W W.heap.size fuel t.kids ak := by
  intro fuel
  induction fuel using Nat.strongRecOn with
  | _ fuel ih =>
    intro cs y h
    obtain ⟨xs, n, rfl, hy, hlen, hxs, hf⟩ := DataW.trod_struct Tryd.underlying25 h
    have h0 : DataW.trod enc Tryd.prog W base spare held n 3 (List.take 1 (List.drop 0 cs)) = xs[0]? := hf 0 _ rfl
    have h1 : DataW.trod enc Tryd.prog W base spare held n 9 (List.take 1 (List.drop 1 cs)) = xs[1]? := hf 1 _ rfl
    have h2 : DataW.trod enc Tryd.prog W base spare held n 9 (List.take 1 (List.drop 2 cs)) = xs[2]? := hf 2 _ rfl
    have h3 : DataW.trod enc Tryd.prog W base spare held n 3 (List.take 1 (List.drop 3 cs)) = xs[3]? := hf 3 _ rfl
    have h4 : DataW.trod enc Tryd.prog W base spare held n 9 (List.take 1 (List.drop 4 cs)) = xs[4]? := hf 4 _ rfl
    have h5 : DataW.trod enc Tryd.prog W base spare held n 22 (List.take 1 (List.drop 5 cs)) = xs[5]? := hf 5 _ rfl
    have h6 : DataW.trod enc Tryd.prog W base spare held n 23 (List.take 1 (List.drop 6 cs)) = xs[6]? := hf 6 _ rfl
    clear hf hy
    rw [cellsCv] at hlen
    match cs, hlen with
    | [a0, a1, a2, a3, a4, a5, a6], _ =>
    match xs, hxs with
    | [x0, x1, x2, x3, x4, x5, x6], _ =>
    simp at h0 h1 h2 h3 h4 h5 h6
    obtain ⟨kind, e0, _, _⟩ := DataW.trod_int Tryd.underlying3 h0
    obtain ⟨fm, e1, _, wfm⟩ := DataW.trod_string Tryd.underlying9 h1
    obtain ⟨tt, e2, _, wtt⟩ := DataW.trod_string Tryd.underlying9 h2
    obtain ⟨so, e3, _, _⟩ := DataW.trod_int Tryd.underlying3 h3
    obtain ⟨name, e4, _, wname⟩ := DataW.trod_string Tryd.underlying9 h4
    obtain ⟨ls, al, cl, rfl, hls, hlc1, hlc2, hla⟩ := openLabs n _ _ h5
    simp at e0 e1 e2 e3 e4
    subst e0 e1 e2 e3 e4
    unfold maxLen at wfm wtt wname
    rcases DataW.trod_slice Tryd.underlying23 h6 with ⟨e5, _⟩ | ⟨a, len, cap, elems, rest, k, hk, e5, _, hb, hlc, hcm, hle, hel, _, _⟩
    · simp at e5
      subst e5
      exact ⟨⟨kind, fm, tt, so, name, ls, []⟩, al, cl, none, 0, rfl, ⟨by simpa using wfm, by simpa using wtt, by simpa using wname, hls, hlc1, hlc2, by simp, by omega⟩, hla, .inl rfl⟩
    · simp at e5
      subst e5
      rw [cellsCv] at hel
      unfold maxLen at hcm
      have hall : ∀ i, i < len → ∃ p : Cv × Option Addr × Nat × Option Addr × Nat, W.cells? base (a.add (i * 7)) 7 = some [.int .i64 p.1.kind, .string p.1.fm, .string p.1.tt, .int .i64 p.1.so, .string p.1.name, .slice p.2.1 p.1.labels.length p.2.2.1, .slice p.2.2.2.1 p.1.kids.length p.2.2.2.2] ∧ CvBd p.1 p.2.2.1 p.2.2.2.2 ∧ LA W W.heap.size p.1.labels p.2.1 ∧ KCv W W.heap.size k p.1.kids p.2.2.2.1 := by
        intro i hi
        have q := hel i hi
        rw [List.getElem?_eq_getElem (by omega)] at q
        obtain ⟨cs', q1, q2⟩ := Option.bind_eq_some_iff.1 q
        obtain ⟨t, al', cl', ak', ck', rfl, hb', hl', hk'⟩ := ih k (by omega) cs' _ q2
        exact ⟨(t, al', cl', ak', ck'), q1, hb', hl', hk'⟩
      haveI : Inhabited (Cv × Option Addr × Nat × Option Addr × Nat) := ⟨(⟨0, ⟨#[]⟩, ⟨#[]⟩, 0, ⟨#[]⟩, [], []⟩, none, 0, none, 0)⟩
      obtain ⟨f, hf⟩ := choose_lt hall
      refine ⟨⟨kind, fm, tt, so, name, ls, (List.range len).map fun i => (f i).1⟩, al, cl, some a, cap, by simp, ⟨by simpa using wfm, by simpa using wtt, by simpa using wname, hls, hlc1, hlc2, by simpa using hlc, hcm⟩, hla, ?_⟩
      obtain ⟨n', rfl⟩ : ∃ n', n = n' + 1 := ⟨n - 1, by omega⟩
      by_cases hl0 : len = 0
      · exact .inl (by simp [hl0])
      · obtain ⟨q1, _, _⟩ := hf 0 (by omega)
        have q2 := (World.cells?_some q1).2.2 0 (by omega)
        obtain ⟨b, o, spot⟩ := a
        have hsp : spot = none := by simpa [Addr.add] using World.cell?_spot q2
        subst hsp
        have hcell : ∀ i j, i < len → j < 7 → W.cell? ⟨b, o + i * 7 + j, none⟩ = [Value.int .i64 (f i).1.kind, Value.string (f i).1.fm, Value.string (f i).1.tt, Value.int .i64 (f i).1.so, Value.string (f i).1.name, Value.slice (f i).2.1 (f i).1.labels.length (f i).2.2.1, Value.slice (f i).2.2.2.1 (f i).1.kids.length (f i).2.2.2.2][j]? := by
          intro i j hi hj
          obtain ⟨q1, _, _⟩ := hf i hi
          have := (World.cells?_some q1).2.2 j hj
          rw [add_add, Go.WideShapes.add_plain] at this
          rw [Nat.add_assoc]; exact this
        refine .inr ⟨b, o, rfl, lt_of_cell ((hcell 0 0 (by omega) (by omega)).trans rfl), fun i hi => ?_⟩
        have hi' : i < len := by simpa using hi
        have e : ((List.range len).map fun i => (f i).1)[i] = (f i).1 := by simp
        simp only [e]
        exact ⟨(f i).2.1, (f i).2.2.1, (f i).2.2.2.1, (f i).2.2.2.2, ⟨(hcell i 0 hi' (by omega)).trans rfl, (hcell i 1 hi' (by omega)).trans rfl, (hcell i 2 hi' (by omega)).trans rfl, (hcell i 3 hi' (by omega)).trans rfl, (hcell i 4 hi' (by omega)).trans rfl, (hcell i 5 hi' (by omega)).trans rfl, (hcell i 6 hi' (by omega)).trans rfl⟩, (hf i hi').2.1, (hf i hi').2.2.1, KCv.up (by omega) (hf i hi').2.2.2⟩
set_option maxRecDepth 100000 in
/-- one that is handed in -/
theorem openCv {r : Reach} {b0 : Nat} {v : Value} {d : DataW H} {p : List MemPlace} (hv : Value.okWide Tryd.prog W r b0 25 v) (h : DataW.Trod enc Tryd.prog W base spare held 25 v d p) :
    ∃ (t : Cv) (al : Option Addr) (cl : Nat) (ak : Option Addr) (ck dp : Nat), v = valCv t al cl ak ck ∧ CvBd t cl ck ∧ LA W W.heap.size t.labels al ∧ KCv W W.heap.size dp t.kids ak := by
  obtain ⟨cs, rfl, hsz⟩ := okWide_struct Tryd.underlying25 hv
  obtain ⟨fuel, hf⟩ := h
  obtain ⟨t, al, cl, ak, ck, e, h1, h2, h3⟩ := openCellsCv fuel _ _ hf
  refine ⟨t, al, cl, ak, ck, fuel, ?_, h1, h2, h3⟩
  unfold valCv
  congr 1
  apply Array.toList_inj.1
  simpa [Value.cells] using e
end
/-- one that stays: what keeps it -/
structure MCv (W : World) (B d : Nat) (t : Cv) (al : Option Addr) (cl : Nat) (ak : Option Addr) (ck : Nat) : Prop where
  bd : CvBd t cl ck
  la : LA W B t.labels al
  ka : KCv W B d t.kids ak
theorem MCv.keep {W W' : World} {B d : Nat} {t : Cv} {al : Option Addr} {cl : Nat} {ak : Option Addr} {ck : Nat} (h : MCv W B d t al cl ak ck) (hb : Below B W W') : MCv W' B d t al cl ak ck := ⟨h.bd, NAt.keep hb h.la, KCv.keep hb h.ka⟩
theorem MCv.mono {W : World} {B B' d : Nat} {t : Cv} {al : Option Addr} {cl : Nat} {ak : Option Addr} {ck : Nat} (h : MCv W B d t al cl ak ck) (hb : B ≤ B') : MCv W B' d t al cl ak ck := ⟨h.bd, NAt.mono hb h.la, KCv.mono hb h.ka⟩
theorem MCv.up {W : World} {B d e : Nat} {t : Cv} {al : Option Addr} {cl : Nat} {ak : Option Addr} {ck : Nat} (h : MCv W B d t al cl ak ck) (hd : d ≤ e) : MCv W B e t al cl ak ck := ⟨h.bd, h.la, KCv.up hd h.ka⟩
theorem CvAt.lit (w : World) (t : Cv) (al : Option Addr) (cl : Nat) (ak : Option Addr) (ck : Nat) : CvAt (w.alloc (.cells #[.int .i64 t.kind, .string t.fm, .string t.tt, .int .i64 t.so, .string t.name, .slice al t.labels.length cl, .slice ak t.kids.length ck] 25)) w.heap.size 0 t al cl ak ck :=
  ⟨by go_cell, by go_cell, by go_cell, by go_cell, by go_cell, by go_cell, by go_cell⟩
end Go.Proofs.YtfmegfgmkeicnaaDoor
