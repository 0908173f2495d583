/-
  Plain mathematics: graph.Back's type is right, and does what the graph does.
-/
import Derived.Test.YtnlpnbelkkgghaaDoorUg
import Derived.Test.YtnlpnbelkkgghaaDoorIg
import Derived.Laws.BytesString
import Derived.Test.YtnlpnbelkkgghaaDoorKc
import Derived.Test.YtnlpnbelkkgghaaDoorLid
import Derived.Test.YtnlpnbelkkgghaaDoorKa
import Derived.Test.YtnlpnbelkkgghaaDoorKb
import Derived.Deep.RegionHeld3
import Derived.Test.YtnlpnbelkkgghaaDoorHo
import Derived.Deep.Slices
namespace Go.Proofs.YtnlpnbelkkgghaaDoor
open Go.RowKit Go.Shelf

def unN (b : ByteArray) : Nat :=
  match b.data.toList with
  | [x] => x.toNat - 97
  | [x, y] => (x.toNat - 96) * 26 + (y.toNat - 97)
  | _ => 0
theorem nm_all : ((List.range 200).all fun i => decide (unN (nmN i) = i) && isVr (nmN i).data.toList) = true := by kernel_rfl
theorem nm_at {i : Nat} (hi : i < 200) : unN (nmN i) = i ∧ isVr (nmN i).data.toList = true := by
  have h := List.all_eq_true.1 nm_all i (List.mem_range.2 hi)
  rw [Bool.and_eq_true] at h
  exact ⟨of_decide_eq_true h.1, h.2⟩
theorem nmN_inj {i j : Nat} (hi : i < 200) (hj : j < 200) (h : nmN i = nmN j) : i = j := by
  rw [← (nm_at hi).1, ← (nm_at hj).1, h]
theorem part_var {t : Ty} (hp : partT t = true) (h9 : t.kind = 9) : t.kids = [] := by
  unfold partT at hp
  simp [h9] at hp
  exact hp.2
theorem cl_of_fr : ∀ t : Ty, wfT t → ∀ ns, (∀ x, frT x t = true → x ∈ ns) → clT t ns := by
  apply tyInd
  intro t ih hw ns h
  obtain ⟨hp, hk⟩ := (wfT_eq t).1 hw
  refine (clT_eq t ns).2 ⟨fun h9 => h _ (by rw [frT_var _ _ h9]; simp), fun q hq => ih q hq (hk q hq) _ fun x hx => ?_⟩
  have h9 : t.kind ≠ 9 := fun h9 => by rw [part_var hp h9] at hq; cases hq
  by_cases h8 : t.kind = 8
  · rw [if_pos h8]
    by_cases e : t.name = x
    · rw [e]; exact List.mem_append_right _ (.head _)
    · exact List.mem_append_left _ (h x (by rw [frT_else x t h9 (fun q => e q.2)]; exact List.any_eq_true.2 ⟨q, hq, hx⟩))
  · rw [if_neg h8]
    exact h x (by rw [frT_else x t h9 (fun q => h8 q.1)]; exact List.any_eq_true.2 ⟨q, hq, hx⟩)
/-- what graph.Back makes, and how many parts it has made of it -/
def backP (g : List Nd) : Ty × SB := bkT g 61 (fun _ => false) 0 (fun _ => false, 0)
/-- where it is not too large it is a right type that does what the graph does -/
theorem back_ok {g : List Nd} (hg : GN g) (hl : g.length ≤ 200) (h : (backP g).2.2 ≤ 60) : chkTy (backP g).1 = 0 ∧ den (backP g).1 e0 = fun k => gT g k 0 := by
  have K := bk_ok hg (fun i j hi hj => nmN_inj (by omega) (by omega)) (fun i hi => (nm_at (by omega)).2) 61 (fun _ => false) 0 (fun _ => false, 0) (by show 61 ≤ 61 + 0; omega) hg.pos (fun j hj => by cases hj) h
  have hcl : clT (backP g).1 [] := cl_of_fr _ (gdT_wf _ K.gd) [] fun x hx => by
    obtain ⟨j, p, _⟩ := K.fr x hx
    cases p
  have hsz : sizeT (backP g).1 ≤ 60 := by
    have := K.sz
    have h2 : (bkT g 61 (fun _ => false) 0 (fun _ => false, 0)).2.2 ≤ 60 := h
    show sizeT (bkT g 61 (fun _ => false) 0 (fun _ => false, 0)).1 ≤ 60
    have h3 : (0 : Nat) + sizeT (bkT g 61 (fun _ => false) 0 (fun _ => false, 0)).1 = _ := K.sz
    omega
  refine ⟨?_, K.dn e0 fun j hj => by cases hj⟩
  rcases chkTy_or K.gd hcl (by show sizeT (backP g).1 ≤ _; omega) with q | q
  · exact q
  · have q2 : 60 < sizeT (backP g).1 := q.2
    omega
end Go.Proofs.YtnlpnbelkkgghaaDoor
/-
  The contract of graph.nodeName.
-/
namespace Go.Proofs.YtnlpnbelkkgghaaDoor
open Go.RowKit Go.Shelf

theorem conv1 (w : World) (z : Int) : (convert 145 9 (.slice (some ⟨w.heap.size, 0, none⟩) 1 1)).run Tryd.prog (w.alloc (.cells #[.int .u8 z] 5)) = .ok (.string ⟨#[UInt8.ofNat z.toNat]⟩) (w.alloc (.cells #[.int .u8 z] 5)) := by
  rw [run_convert_bytes_string (P := Tryd.prog) _ 145 9 5 _ _ _ Tryd.underlying145 Tryd.underlying5 Tryd.underlying9]
  rw [run_bytesToString _ _ _ _ [z]]
  · rfl
  · rw [run_loadCells _ ⟨w.heap.size, 0, none⟩ 1 (fun _ => .int .u8 z) (fun j hj => by
      obtain rfl : j = 0 := by omega
      show World.cell? _ ⟨w.heap.size, 0, none⟩ = _
      go_cell)]
    rfl
theorem conv2 (w : World) (z y : Int) : (convert 145 9 (.slice (some ⟨w.heap.size, 0, none⟩) 2 2)).run Tryd.prog (w.alloc (.cells #[.int .u8 z, .int .u8 y] 5)) = .ok (.string ⟨#[UInt8.ofNat z.toNat, UInt8.ofNat y.toNat]⟩) (w.alloc (.cells #[.int .u8 z, .int .u8 y] 5)) := by
  rw [run_convert_bytes_string (P := Tryd.prog) _ 145 9 5 _ _ _ Tryd.underlying145 Tryd.underlying5 Tryd.underlying9]
  rw [run_bytesToString _ _ _ _ [z, y]]
  · rfl
  · rw [run_loadCells _ ⟨w.heap.size, 0, none⟩ 2 (fun j => if j = 0 then .int .u8 z else .int .u8 y) (fun j hj => by
      have : j = 0 ∨ j = 1 := by omega
      rcases this with rfl | rfl
      · show World.cell? _ ⟨w.heap.size, 0, none⟩ = _
        go_cell
      · show World.cell? _ ⟨w.heap.size, 1, none⟩ = _
        go_cell)]
    rfl
set_option maxRecDepth 100000 in
set_option maxHeartbeats 4000000 in
theorem nodeName_any (i : Nat) (hi : i < 200) (w : World) :
    Calls Tryd.prog 59 #[.int .i64 (i : Int)] w fun e w' => e = .returned (.string (nmN i)) ∧ Below w.heap.size w w' := by
  by_cases h : i < 26
  · have hz : (i : Int) < 26 := by omega
    have HN := hideK (show (⟨#[UInt8.ofNat (97 + (i : Int) % 26).toNat]⟩ : ByteArray) = nmN i from by
      unfold nmN
      rw [if_pos h, show (97 + (i : Int) % 26).toNat = 97 + i by omega])
    go_enter Tryd.func59, Tryd.ntmps59
    go_wp2_with fail
    rw [conv1]
    go_wp2_with fail
    go_ret
    exact ⟨congrArg (fun b => Ending.returned (Value.string b)) HN.out, (Below.refl _ _).alloc (Nat.le_refl _) _⟩
  · have hz : ¬ (i : Int) < 26 := by omega
    have HN := hideK (show (⟨#[UInt8.ofNat ((97 + (i : Int) / 26).toNat - 1), UInt8.ofNat (97 + (i : Int) % 26).toNat]⟩ : ByteArray) = nmN i from by
      unfold nmN
      rw [if_neg h, show (97 + (i : Int) / 26).toNat - 1 = 97 + i / 26 - 1 by omega, show (97 + (i : Int) % 26).toNat = 97 + i % 26 by omega])
    go_enter Tryd.func59, Tryd.ntmps59
    go_wp2_with fail
    rw [conv2]
    go_wp2_with fail
    go_ret
    exact ⟨congrArg (fun b => Ending.returned (Value.string b)) HN.out, (Below.refl _ _).alloc (Nat.le_refl _) _⟩
end Go.Proofs.YtnlpnbelkkgghaaDoor

/-
  The contracts of duetref.small, IsName, levels and Level, for every text.
-/
namespace Go.Proofs.YtnlpnbelkkgghaaDoor
open Go.RowKit Go.Shelf Go.Sort

end Go.Proofs.YtnlpnbelkkgghaaDoor

/-
  The contracts of duetref.IsVar and duetref.Labels.
-/
namespace Go.Proofs.YtnlpnbelkkgghaaDoor
open Go.RowKit Go.Shelf

end Go.Proofs.YtnlpnbelkkgghaaDoor

/-
  The contract of duetref.part: has a part of a type just what its kind has?
-/
namespace Go.Proofs.YtnlpnbelkkgghaaDoor
open Go.RowKit Go.Shelf

end Go.Proofs.YtnlpnbelkkgghaaDoor

/-
  Plain: a list of parts, each with the names around it, that are looked at one after another, each one's Kids put ahead of the others: it finds nothing just if Check finds nothing.
-/
namespace Go.Proofs.YtnlpnbelkkgghaaDoor
open Go.RowKit

end Go.Proofs.YtnlpnbelkkgghaaDoor

/-
  append onto a row that a call owns, from whatever lies in memory: at a walk's step and at a step of a region that draws its order. The list of parts that duetref.Type looks at: cells, and where what they name lies.
-/
namespace Go.Proofs.YtnlpnbelkkgghaaDoor
open Go.RowKit Go.Shelf

/-- a part on the list: a type, where its Labels and its Kids lie; the names around it, and where they lie -/
abbrev WTk := Ty × (Option Addr × Nat) × (Option Addr × Nat) × List ByteArray × (Option Addr × Nat)
/-- what the parts on the list name lies in memory: of the type below block B, of the names now -/
def TOW (w : World) (W : World) (ts : List WTk) : Prop := ∀ t ∈ ts, TyBw t.1 ∧ LA w w.heap.size t.1.labels t.2.1.1 ∧ (∃ d, KT w w.heap.size d t.1.kids t.2.2.1.1) ∧ LA W W.heap.size t.2.2.2.1 t.2.2.2.2.1 ∧ t.2.2.2.1.length ≤ 60
theorem TOW.keep {w W W' : World} {ts : List WTk} (h : TOW w W ts) (hb : Below W.heap.size W W') : TOW w W' ts := fun t ht =>
  have q := h t ht
  ⟨q.1, q.2.1, q.2.2.1, NAt.mono hb.size (NAt.keep hb q.2.2.2.1), q.2.2.2.2⟩
theorem TOW.app {w W : World} {a b : List WTk} (h1 : TOW w W a) (h2 : TOW w W b) : TOW w W (a ++ b) := fun t ht => (List.mem_append.1 ht).elim (h1 t) (h2 t)
end Go.Proofs.YtnlpnbelkkgghaaDoor

/-
  The contract of duetref.Type: it finds nothing just if Check finds nothing.
-/
namespace Go.Proofs.YtnlpnbelkkgghaaDoor
open Go.RowKit Go.Shelf

end Go.Proofs.YtnlpnbelkkgghaaDoor

/-
  The contract of duetkeep.free: does a name stand in a type that no Rec in it binds?
-/
namespace Go.Proofs.YtnlpnbelkkgghaaDoor
open Go.RowKit Go.Shelf

theorem nm_beq (a b : ByteArray) : (a.toList == b.toList) = decide (a = b) := by
  by_cases h : a = b
  · subst h; simp
  · rw [decide_eq_false h, beq_eq_false_iff_ne, ByteArray.toList_eq, ByteArray.toList_eq]
    exact fun e => h (ByteArray.ext (Array.toList_inj.1 e))
end Go.Proofs.YtnlpnbelkkgghaaDoor

/-
  The contract of duetkeep.put: a type in the place of a name.
-/
namespace Go.Proofs.YtnlpnbelkkgghaaDoor
open Go.RowKit Go.Shelf

/-- names in blocks of which P holds -/
def LP (W : World) (P : Nat → Prop) (ls : List ByteArray) (al : Option Addr) : Prop :=
  ls = [] ∨ ∃ b o, al = some ⟨b, o, none⟩ ∧ P b ∧ ∀ i (h : i < ls.length), W.cell? ⟨b, o + i, none⟩ = some (.string ls[i])
/-- types, of so many levels at most, in blocks of which P holds -/
def KP (W : World) (P : Nat → Prop) : Nat → List Ty → Option Addr → Prop
  | 0, ks, _ => ks = []
  | d + 1, ks, ak => ks = [] ∨ ∃ b o, ak = some ⟨b, o, none⟩ ∧ P b ∧ ∀ i (h : i < ks.length), ∃ al cl ak' ck', TyAt W b (o + i * 5) ks[i] al cl ak' ck' ∧ TyBd ks[i] cl ck' ∧ LP W P ks[i].labels al ∧ KP W P d ks[i].kids ak'
theorem LP.keep {W W' : World} {P Q : Nat → Prop} (hb : ∀ b o, P b → W'.cell? ⟨b, o, none⟩ = W.cell? ⟨b, o, none⟩) (hq : ∀ b, P b → Q b) {ls : List ByteArray} {al : Option Addr} (h : LP W P ls al) : LP W' Q ls al :=
  h.imp id fun ⟨b, o, e, hp, hc⟩ => ⟨b, o, e, hq b hp, fun i hi => (hb b _ hp).trans (hc i hi)⟩
theorem KP.keep {W W' : World} {P Q : Nat → Prop} (hb : ∀ b o, P b → W'.cell? ⟨b, o, none⟩ = W.cell? ⟨b, o, none⟩) (hq : ∀ b, P b → Q b) : ∀ {d : Nat} {ks : List Ty} {ak : Option Addr}, KP W P d ks ak → KP W' Q d ks ak
  | 0, _, _, h => h
  | d + 1, ks, ak, h => by
    rcases h with h | ⟨b, o, h1, h2, h3⟩
    · exact .inl h
    · refine .inr ⟨b, o, h1, hq b h2, fun i hi => ?_⟩
      obtain ⟨al, cl, ak', ck', e, f, g, k⟩ := h3 i hi
      exact ⟨al, cl, ak', ck', ⟨(hb b _ h2).trans e.c0, (hb b _ h2).trans e.c1, (hb b _ h2).trans e.c2, (hb b _ h2).trans e.c3, (hb b _ h2).trans e.c4⟩, f, LP.keep hb hq g, KP.keep hb hq k⟩
theorem KP.up {W : World} {P : Nat → Prop} : ∀ {d e : Nat} {ks : List Ty} {ak : Option Addr}, d ≤ e → KP W P d ks ak → KP W P e ks ak
  | 0, 0, _, _, _, h => h
  | 0, e + 1, _, _, _, h => .inl h
  | d + 1, 0, _, _, hd, _ => by omega
  | d + 1, e + 1, ks, ak, hd, h => by
    rcases h with h | ⟨b, o, h1, hl, h⟩
    · exact .inl h
    · exact .inr ⟨b, o, h1, hl, fun i hi => by
        obtain ⟨al, cl, ak', ck', h1, h2, h3, h4⟩ := h i hi
        exact ⟨al, cl, ak', ck', h1, h2, h3, KP.up (by omega) h4⟩⟩
theorem LP.la {W : World} {P : Nat → Prop} {B : Nat} (hq : ∀ b, P b → b < B) {ls : List ByteArray} {al : Option Addr} (h : LP W P ls al) : LA W B ls al := by
  rcases h with rfl | ⟨b, o, e, hp, hc⟩
  · exact .inl rfl
  · exact .inr ⟨b, o, e, hq b hp, fun i hi => by rw [List.length_map] at hi; rw [List.getElem_map]; exact hc i hi⟩
theorem KP.kt {W : World} {P : Nat → Prop} {B : Nat} (hq : ∀ b, P b → b < B) : ∀ {d : Nat} {ks : List Ty} {ak : Option Addr}, KP W P d ks ak → KT W B d ks ak
  | 0, _, _, h => h
  | d + 1, ks, ak, h => by
    rcases h with h | ⟨b, o, h1, h2, h3⟩
    · exact .inl h
    · refine .inr ⟨b, o, h1, hq b h2, fun i hi => ?_⟩
      obtain ⟨al, cl, ak', ck', e, f, g, k⟩ := h3 i hi
      exact ⟨al, cl, ak', ck', e, f, g.la hq, KP.kt hq k⟩
/-- types as they lie in a row -/
abbrev TTk := Ty × (Option Addr × Nat) × (Option Addr × Nat)
def tC (t : TTk) : List Value := [.int .i64 t.1.kind, .int .i64 t.1.so, .string t.1.name, .slice t.2.1.1 t.1.labels.length t.2.1.2, .slice t.2.2.1 t.1.kids.length t.2.2.2]
def tCs (ts : List TTk) : List Value := ts.flatMap tC
theorem tCs_snoc (ts : List TTk) (x : TTk) : tCs (ts ++ [x]) = tCs ts ++ tC x := by simp [tCs]
theorem tC_one (t : TTk) : ∀ y ∈ tC t, y.oneCell' = true := by
  intro y hy
  simp only [tC, List.mem_cons, List.not_mem_nil, or_false] at hy
  rcases hy with rfl | rfl | rfl | rfl | rfl <;> rfl
theorem tCs_at : ∀ (ss : List TTk) (i : Nat) (h : i < ss.length) (j : Nat), j < 5 → (tCs ss)[i * 5 + j]? = (tC ss[i])[j]?
  | [], i, h, _, _ => by simp at h
  | s :: ss, 0, _, j, hj => by
    have e : tCs (s :: ss) = tC s ++ tCs ss := rfl
    rw [e, List.getElem?_append_left (by simp [tC]; omega)]
    simp
  | s :: ss, i + 1, h, j, hj => by
    have e : tCs (s :: ss) = tC s ++ tCs ss := rfl
    have hl : (tC s).length = 5 := rfl
    rw [e, List.getElem?_append_right (by rw [hl]; omega), hl, show (i + 1) * 5 + j - 5 = i * 5 + j by omega]
    exact tCs_at ss i (by simpa using h) j hj
def TOK (W : World) (P : Nat → Prop) (ts : List TTk) : Prop := ∀ q ∈ ts, TyBd q.1 q.2.1.2 q.2.2.2 ∧ LP W P q.1.labels q.2.1.1 ∧ ∃ d, KP W P d q.1.kids q.2.2.1
theorem TOK.keep {W W' : World} {P Q : Nat → Prop} {ts : List TTk} (h : TOK W P ts) (hb : ∀ b o, P b → W'.cell? ⟨b, o, none⟩ = W.cell? ⟨b, o, none⟩) (hq : ∀ b, P b → Q b) : TOK W' Q ts :=
  fun q hm => ⟨(h q hm).1, (h q hm).2.1.keep hb hq, by obtain ⟨d, hd⟩ := (h q hm).2.2; exact ⟨d, hd.keep hb hq⟩⟩
theorem tok_depth {W : World} {P : Nat → Prop} : ∀ {ts : List TTk}, TOK W P ts → ∃ D, ∀ q ∈ ts, KP W P D q.1.kids q.2.2.1
  | [], _ => ⟨0, fun q hq => by cases hq⟩
  | x :: ts, h => by
    obtain ⟨D, hD⟩ := tok_depth (ts := ts) fun q hq => h q (.tail _ hq)
    obtain ⟨d, hd⟩ := (h x (.head _)).2.2
    exact ⟨D + d, fun q hq => by
      rcases List.mem_cons.1 hq with rfl | hq
      · exact hd.up (by omega)
      · exact (hD q hq).up (by omega)⟩
theorem kp_row {W : World} {base n : Nat} {v : Value} {ts : List TTk} {P : Nat → Prop} (ho : W.ownsRow base 25 5 v n (tCs ts)) (hn : ts.length = n) (ht : TOK W P ts) (hv : ∀ b, v.ownBlock = some b → P b) : ∃ ak ck d, v = .slice ak n ck ∧ n ≤ ck ∧ ck ≤ 9223372036854775807 ∧ KP W P d (ts.map fun q => q.1) ak := by
  obtain ⟨D, hD⟩ := tok_depth ht
  rcases ho.2 with ⟨rfl, h0⟩ | ⟨g, cap, cur, rfl, _, hc, h1, h2, _, _⟩
  · have : ts = [] := List.eq_nil_of_length_eq_zero (by omega)
    subst this
    exact ⟨none, 0, 0, by rw [h0], by omega, by omega, rfl⟩
  · unfold maxLen at h2
    obtain ⟨g', c', e, _, _, hcell⟩ := (own_cells ho).resolve_left (fun q => by cases q.1)
    injection e with e1 _ e3
    injection e1 with e1
    injection e1 with e1
    subst e1 e3
    refine ⟨_, cap, D + 1, rfl, h1, by omega, .inr ⟨g, 0, rfl, hv g rfl, fun i hi => ?_⟩⟩
    have hi' : i < ts.length := by simpa using hi
    have ge : (ts.map fun q => q.1)[i] = ts[i].1 := by simp
    rw [ge]
    have hm := List.getElem_mem hi'
    have hcl : ∀ j y, j < 5 → (tC ts[i])[j]? = some y → W.cell? ⟨g, 0 + i * 5 + j, none⟩ = some y := fun j y hj hy => by
      rw [Nat.zero_add]
      exact hcell _ _ ((tCs_at ts i hi' j hj).trans hy)
    exact ⟨ts[i].2.1.1, ts[i].2.1.2, ts[i].2.2.1, ts[i].2.2.2, ⟨hcl 0 _ (by omega) rfl, hcl 1 _ (by omega) rfl, hcl 2 _ (by omega) rfl, hcl 3 _ (by omega) rfl, hcl 4 _ (by omega) rfl⟩, (ht _ hm).1, (ht _ hm).2.1, hD _ hm⟩
theorem infoTy : (Tryd.prog.info? 25).map (fun i => (i.zero, i.size, i.bytes)) = some (some (.agg #[.int .i64 0, .int .i64 0, .string ⟨#[]⟩, .slice none 0 0, .slice none 0 0]), 5, 80) := by kernel_rfl
/-- the boxes of put: both types, the result, and what is made -/
structure PX (w : World) (t : Ty) (al : Option Addr) (cl : Nat) (ak : Option Addr) (ck : Nat) (s : Ty) (sal : Option Addr) (scl : Nat) (sak : Option Addr) (sck : Nat) (bo : Nat) (u : Value) (W : World) : Prop where
  x : TyAt W w.heap.size 0 t al cl ak ck
  y : TyAt W (w.heap.size + 1) 0 s sal scl sak sck
  z : ∀ j, j < 5 → (∃ v, W.cell? ⟨w.heap.size + 1 + 1, j, none⟩ = some v) ∧ W.frozen? ⟨w.heap.size + 1 + 1, j, none⟩ = false
  o0 : W.cell? ⟨bo, 0, none⟩ = some (.int .i64 t.kind)
  o1 : W.cell? ⟨bo, 1, none⟩ = some (.int .i64 t.so)
  o2 : W.cell? ⟨bo, 2, none⟩ = some (.string t.name)
  o3 : W.cell? ⟨bo, 3, none⟩ = some (.slice al t.labels.length cl)
  o4 : W.cell? ⟨bo, 4, none⟩ = some u
  fo : W.frozen? ⟨bo, 4, none⟩ = false
  lo : w.heap.size + 1 + 1 < bo
  lt : bo < W.heap.size
  bl : Below w.heap.size w W
theorem PX.keep {w : World} {t : Ty} {al : Option Addr} {cl : Nat} {ak : Option Addr} {ck : Nat} {s : Ty} {sal : Option Addr} {scl : Nat} {sak : Option Addr} {sck : Nat} {bo : Nat} {u : Value} {W W' : World} (h : PX w t al cl ak ck s sal scl sak sck bo u W) (hb : Below W.heap.size W W') : PX w t al cl ak ck s sal scl sak sck bo u W' := by
  have h1 := h.lo
  have h2 := h.lt
  have hc : ∀ b o, b ≤ bo → W'.cell? ⟨b, o, none⟩ = W.cell? ⟨b, o, none⟩ := fun b o hb' => hb.cell (p := ⟨b, o, none⟩) (by show b < _; omega)
  have hf : ∀ b o, b ≤ bo → W'.frozen? ⟨b, o, none⟩ = W.frozen? ⟨b, o, none⟩ := fun b o hb' => hb.frozen (p := ⟨b, o, none⟩) (by show b < _; omega)
  exact ⟨h.x.keep hb (by omega), h.y.keep hb (by omega), fun j hj => ⟨by obtain ⟨v, hv⟩ := (h.z j hj).1; exact ⟨v, (hc _ _ (by omega)).trans hv⟩, (hf _ _ (by omega)).trans (h.z j hj).2⟩, (hc _ _ (by omega)).trans h.o0, (hc _ _ (by omega)).trans h.o1, (hc _ _ (by omega)).trans h.o2, (hc _ _ (by omega)).trans h.o3, (hc _ _ (by omega)).trans h.o4, (hf _ _ (by omega)).trans h.fo, h1, Nat.lt_of_lt_of_le h2 hb.size, h.bl.trans (hb.mono h.bl.size)⟩
theorem PX.put {w : World} {t : Ty} {al : Option Addr} {cl : Nat} {ak : Option Addr} {ck : Nat} {s : Ty} {sal : Option Addr} {scl : Nat} {sak : Option Addr} {sck : Nat} {bo : Nat} {u v : Value} {W W' : World} (h : PX w t al cl ak ck s sal scl sak sck bo u W) (hg : W.grownBy W' u.ownBlock) (hu : ∀ b, u.ownBlock = some b → bo < b) : PX w t al cl ak ck s sal scl sak sck bo v (W'.setCell ⟨bo, 4, none⟩ v) := by
  have h1 := h.lo
  have h2 := h.lt
  have hk : ∀ b, b ≤ bo → W'.heap[b]? = W.heap[b]? := fun b hb => hg.block b (by omega) (fun e => by have := hu b e.symm; omega)
  have hc : ∀ b o, b ≤ bo → W'.cell? ⟨b, o, none⟩ = W.cell? ⟨b, o, none⟩ := fun b o hb => World.cell?_of_block (a := ⟨b, o, none⟩) (hk b hb)
  have hf : ∀ b o, b ≤ bo → (W'.setCell ⟨bo, 4, none⟩ v).frozen? ⟨b, o, none⟩ = W.frozen? ⟨b, o, none⟩ := fun b o hb => (World.frozen?_setCell _ _ _ _).trans (World.frozen?_of_block (a := ⟨b, o, none⟩) (hk b hb))
  have hs : ∀ b o, b ≤ bo → (b ≠ bo ∨ o ≠ 4) → (W'.setCell ⟨bo, 4, none⟩ v).cell? ⟨b, o, none⟩ = W.cell? ⟨b, o, none⟩ := fun b o hb hn => (World.cell?_setCell_other _ _ _ _ (by intro e; injection e with e1 e2; rcases hn with q | q; exact q e1.symm; exact q e2.symm)).trans (hc b o hb)
  have hsT : ∀ b, b < bo → ∀ {q : Ty} {a1 c1 a2 c2}, TyAt W b 0 q a1 c1 a2 c2 → TyAt (W'.setCell ⟨bo, 4, none⟩ v) b 0 q a1 c1 a2 c2 := fun b hb _ _ _ _ _ e => ⟨(hs b _ (by omega) (.inl (by omega))).trans e.c0, (hs b _ (by omega) (.inl (by omega))).trans e.c1, (hs b _ (by omega) (.inl (by omega))).trans e.c2, (hs b _ (by omega) (.inl (by omega))).trans e.c3, (hs b _ (by omega) (.inl (by omega))).trans e.c4⟩
  have hsz := hg.size
  refine ⟨hsT _ (by omega) h.x, hsT _ (by omega) h.y, fun j hj => ⟨by obtain ⟨v, hv⟩ := (h.z j hj).1; exact ⟨v, (hs _ _ (by omega) (.inl (by omega))).trans hv⟩, (hf _ _ (by omega)).trans (h.z j hj).2⟩, (hs _ _ (by omega) (.inr (by omega))).trans h.o0, (hs _ _ (by omega) (.inr (by omega))).trans h.o1, (hs _ _ (by omega) (.inr (by omega))).trans h.o2, (hs _ _ (by omega) (.inr (by omega))).trans h.o3, World.cell?_setCell_same _ _ _ ((hc _ _ (by omega)).trans h.o4), (hf _ _ (by omega)).trans h.fo, h1, by simp; omega, ?_⟩
  refine ⟨hg.os.trans h.bl.os, hg.tape.trans h.bl.tape, hg.output.trans h.bl.output, by simp; have := h.bl.size; omega, fun b hb => ?_⟩
  rw [Below.heap_setCell _ _ _ b (fun e => by have e : b = bo := e; omega), hk b (by omega)]
  exact h.bl.block b hb
end Go.Proofs.YtnlpnbelkkgghaaDoor

/-
  The memory of graph.Back's way: the graph, what it has come through, what it has come back to, how many parts are made.
-/
namespace Go.Proofs.YtnlpnbelkkgghaaDoor
open Go.RowKit Go.Shelf

structure WY (n : Nat) (ag : Option Addr) (cg wb pb mb : Nat) (ps : Nat → Bool) (st : SB) (W : World) : Prop where
  c0 : W.cell? ⟨wb, 0, none⟩ = some (.slice ag n cg)
  c1 : W.cell? ⟨wb, 1, none⟩ = some (.slice (some ⟨pb, 0, none⟩) n n)
  c2 : W.cell? ⟨wb, 2, none⟩ = some (.slice (some ⟨mb, 0, none⟩) n n)
  c3 : W.cell? ⟨wb, 3, none⟩ = some (.int .i64 (st.2 : Int))
  p : ∀ i, i < n → W.cell? ⟨pb, i, none⟩ = some (.bool (ps i))
  m : ∀ i, i < n → W.cell? ⟨mb, i, none⟩ = some (.bool (st.1 i))
  fw : ∀ o, W.frozen? ⟨wb, o, none⟩ = false
  fp : ∀ o, W.frozen? ⟨pb, o, none⟩ = false
  fm : ∀ o, W.frozen? ⟨mb, o, none⟩ = false
  wp : wb ≠ pb
  wm : wb ≠ mb
  pm : pb ≠ mb
  lw : wb < W.heap.size
  lp : pb < W.heap.size
  lm : mb < W.heap.size
theorem WY.keep {n : Nat} {ag : Option Addr} {cg wb pb mb : Nat} {ps : Nat → Bool} {st : SB} {W W' : World} (h : WY n ag cg wb pb mb ps st W) (hb : Below W.heap.size W W') : WY n ag cg wb pb mb ps st W' :=
  ⟨(hb.cell (p := ⟨wb, 0, none⟩) h.lw).trans h.c0, (hb.cell (p := ⟨wb, 1, none⟩) h.lw).trans h.c1, (hb.cell (p := ⟨wb, 2, none⟩) h.lw).trans h.c2, (hb.cell (p := ⟨wb, 3, none⟩) h.lw).trans h.c3, fun i hi => (hb.cell (p := ⟨pb, i, none⟩) h.lp).trans (h.p i hi), fun i hi => (hb.cell (p := ⟨mb, i, none⟩) h.lm).trans (h.m i hi), fun o => (hb.frozen (p := ⟨wb, o, none⟩) h.lw).trans (h.fw o), fun o => (hb.frozen (p := ⟨pb, o, none⟩) h.lp).trans (h.fp o), fun o => (hb.frozen (p := ⟨mb, o, none⟩) h.lm).trans (h.fm o), h.wp, h.wm, h.pm, Nat.lt_of_lt_of_le h.lw hb.size, Nat.lt_of_lt_of_le h.lp hb.size, Nat.lt_of_lt_of_le h.lm hb.size⟩
theorem cell_set {W : World} {b o b' o' : Nat} (v : Value) (h : b ≠ b' ∨ o ≠ o') : (W.setCell ⟨b', o', none⟩ v).cell? ⟨b, o, none⟩ = W.cell? ⟨b, o, none⟩ :=
  World.cell?_setCell_other _ _ _ _ (by intro e; injection e with e1 e2; rcases h with q | q; exact q e1.symm; exact q e2.symm)
/-- one part more -/
theorem WY.part {n : Nat} {ag : Option Addr} {cg wb pb mb : Nat} {ps : Nat → Bool} {st : SB} {W : World} (h : WY n ag cg wb pb mb ps st W) {z : Int} (hz : z = (st.2 + 1 : Nat)) : WY n ag cg wb pb mb ps (st.1, st.2 + 1) (W.setCell ⟨wb, 3, none⟩ (.int .i64 z)) := by
  subst hz
  exact ⟨(cell_set _ (.inr (by omega))).trans h.c0, (cell_set _ (.inr (by omega))).trans h.c1, (cell_set _ (.inr (by omega))).trans h.c2, World.cell?_setCell_same _ _ _ h.c3, fun i hi => (cell_set _ (.inl h.wp.symm)).trans (h.p i hi), fun i hi => (cell_set _ (.inl h.wm.symm)).trans (h.m i hi), fun o => (World.frozen?_setCell _ _ _ _).trans (h.fw o), fun o => (World.frozen?_setCell _ _ _ _).trans (h.fp o), fun o => (World.frozen?_setCell _ _ _ _).trans (h.fm o), h.wp, h.wm, h.pm, by simpa using h.lw, by simpa using h.lp, by simpa using h.lm⟩
/-- it has come through a node, or gone back from it -/
theorem WY.pass {n : Nat} {ag : Option Addr} {cg wb pb mb : Nat} {ps : Nat → Bool} {st : SB} {W : World} (h : WY n ag cg wb pb mb ps st W) {i : Nat} (hi : i < n) (b : Bool) : WY n ag cg wb pb mb (upB ps i b) st (W.setCell ⟨pb, i, none⟩ (.bool b)) := by
  refine ⟨(cell_set _ (.inl h.wp)).trans h.c0, (cell_set _ (.inl h.wp)).trans h.c1, (cell_set _ (.inl h.wp)).trans h.c2, (cell_set _ (.inl h.wp)).trans h.c3, fun j hj => ?_, fun i hi => (cell_set _ (.inl h.pm.symm)).trans (h.m i hi), fun o => (World.frozen?_setCell _ _ _ _).trans (h.fw o), fun o => (World.frozen?_setCell _ _ _ _).trans (h.fp o), fun o => (World.frozen?_setCell _ _ _ _).trans (h.fm o), h.wp, h.wm, h.pm, by simpa using h.lw, by simpa using h.lp, by simpa using h.lm⟩
  by_cases e : j = i
  · rw [e, upB_same]; exact World.cell?_setCell_same _ _ _ (h.p i hi)
  · rw [upB_other _ _ _ e]; exact (cell_set _ (.inr e)).trans (h.p j hj)
/-- it has come back to a node, or comes to it anew -/
theorem WY.meet {n : Nat} {ag : Option Addr} {cg wb pb mb : Nat} {ps : Nat → Bool} {st : SB} {W : World} (h : WY n ag cg wb pb mb ps st W) {i : Nat} (hi : i < n) (b : Bool) : WY n ag cg wb pb mb ps (upB st.1 i b, st.2) (W.setCell ⟨mb, i, none⟩ (.bool b)) := by
  refine ⟨(cell_set _ (.inl h.wm)).trans h.c0, (cell_set _ (.inl h.wm)).trans h.c1, (cell_set _ (.inl h.wm)).trans h.c2, (cell_set _ (.inl h.wm)).trans h.c3, fun i hi => (cell_set _ (.inl h.pm)).trans (h.p i hi), fun j hj => ?_, fun o => (World.frozen?_setCell _ _ _ _).trans (h.fw o), fun o => (World.frozen?_setCell _ _ _ _).trans (h.fp o), fun o => (World.frozen?_setCell _ _ _ _).trans (h.fm o), h.wp, h.wm, h.pm, by simpa using h.lw, by simpa using h.lp, by simpa using h.lm⟩
  by_cases e : j = i
  · rw [e]; show _ = some (Value.bool (upB st.1 i b i)); rw [upB_same]; exact World.cell?_setCell_same _ _ _ (h.m i hi)
  · show _ = some (Value.bool (upB st.1 i b j)); rw [upB_other _ _ _ e]; exact (cell_set _ (.inr e)).trans (h.m j hj)
/-- of what lay there, nothing but the way's own three blocks has changed -/
structure But3 (wb pb mb : Nat) (w W : World) : Prop where
  os : W.os = w.os
  tape : W.tape = w.tape
  output : W.output = w.output
  size : w.heap.size ≤ W.heap.size
  block : ∀ b, b < w.heap.size → b ≠ wb → b ≠ pb → b ≠ mb → W.heap[b]? = w.heap[b]?
theorem But3.refl (wb pb mb : Nat) (w : World) : But3 wb pb mb w w := ⟨rfl, rfl, rfl, Nat.le_refl _, fun _ _ _ _ _ => rfl⟩
theorem But3.trans {wb pb mb : Nat} {w W V : World} (h : But3 wb pb mb w W) (h2 : But3 wb pb mb W V) : But3 wb pb mb w V :=
  ⟨h2.os.trans h.os, h2.tape.trans h.tape, h2.output.trans h.output, Nat.le_trans h.size h2.size, fun b hb h1 h3 h4 => (h2.block b (Nat.lt_of_lt_of_le hb h.size) h1 h3 h4).trans (h.block b hb h1 h3 h4)⟩
theorem But3.below {wb pb mb : Nat} {w W : World} (h : Below w.heap.size w W) : But3 wb pb mb w W := ⟨h.os, h.tape, h.output, h.size, fun b hb _ _ _ => h.block b hb⟩
theorem But3.set {wb pb mb : Nat} {w W : World} (h : But3 wb pb mb w W) {b o : Nat} (hb : b = wb ∨ b = pb ∨ b = mb ∨ w.heap.size ≤ b) (v : Value) : But3 wb pb mb w (W.setCell ⟨b, o, none⟩ v) :=
  ⟨h.os, h.tape, h.output, by simpa using h.size, fun c hc h1 h2 h3 => by
    rw [Below.heap_setCell _ _ _ c (fun e => by have e : c = b := e; omega)]
    exact h.block c hc h1 h2 h3⟩
/-- what typeFrom answers -/
def BKPost (g : List Nd) (f : Nat) (ag : Option Addr) (cg wb pb mb : Nat) (ps : Nat → Bool) (i : Nat) (st : SB) (w : World) (e : Ending) (W : World) : Prop :=
  (∃ al cl ak ck d, e = .returned (tyVal (bkT g f ps i st).1 al cl ak ck) ∧ TyBd (bkT g f ps i st).1 cl ck ∧ LP W (fun b => w.heap.size ≤ b ∧ b < W.heap.size) (bkT g f ps i st).1.labels al ∧ KP W (fun b => w.heap.size ≤ b ∧ b < W.heap.size) d (bkT g f ps i st).1.kids ak) ∧ WY g.length ag cg wb pb mb ps (bkT g f ps i st).2 W ∧ But3 wb pb mb w W
end Go.Proofs.YtnlpnbelkkgghaaDoor
