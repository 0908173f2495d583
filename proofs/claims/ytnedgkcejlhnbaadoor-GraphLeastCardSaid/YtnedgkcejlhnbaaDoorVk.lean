/-
  Plain mathematics: graph.Back's type is right, and does what the graph does.
-/
import Derived.Test.YtnedgkcejlhnbaaDoorUg
import Derived.Test.YtnedgkcejlhnbaaDoorIg
import Derived.Laws.BytesString
import Derived.Test.YtnedgkcejlhnbaaDoorKc
import Derived.Test.YtnedgkcejlhnbaaDoorLib
import Derived.Test.YtnedgkcejlhnbaaDoorXd
import Derived.Test.YtnedgkcejlhnbaaDoorKb
import Derived.Deep.RegionHeld3
import Derived.Test.YtnedgkcejlhnbaaDoorHn
import Derived.Deep.Slices
import Derived.Test.YtnedgkcejlhnbaaDoorVc
namespace Go.Proofs.YtnedgkcejlhnbaaDoor
open Go.RowKit Go.Shelf

def unN (b : ByteArray) : Nat :=
  match b.data.toList with
  | [x] => x.toNat - 97
  | [x, y] => (x.toNat - 96) * 26 + (y.toNat - 97)
  | _ => 0
theorem nm_all : ((List.range 200).all fun i => decide (unN (nmN i) = i) && isVr (nmN i).data.toList) = true := by kernel_rfl
theorem nm_at {i : Nat} (hi : i < 200) : unN (nmN i) = i ∧ isVr (nmN i).data.toList = true := by
  have h := List.all_eq_true.1 nm_all i (List.mem_range.2 hi)
  rw [Bool.and_eq_true] at h
  exact ⟨of_decide_eq_true h.1, h.2⟩
theorem nmN_inj {i j : Nat} (hi : i < 200) (hj : j < 200) (h : nmN i = nmN j) : i = j := by
  rw [← (nm_at hi).1, ← (nm_at hj).1, h]
theorem part_var {t : Ty} (hp : partT t = true) (h9 : t.kind = 9) : t.kids = [] := by
  unfold partT at hp
  simp [h9] at hp
  exact hp.2
theorem cl_of_fr : ∀ t : Ty, wfT t → ∀ ns, (∀ x, frT x t = true → x ∈ ns) → clT t ns := by
  apply tyInd
  intro t ih hw ns h
  obtain ⟨hp, hk⟩ := (wfT_eq t).1 hw
  refine (clT_eq t ns).2 ⟨fun h9 => h _ (by rw [frT_var _ _ h9]; simp), fun q hq => ih q hq (hk q hq) _ fun x hx => ?_⟩
  have h9 : t.kind ≠ 9 := fun h9 => by rw [part_var hp h9] at hq; cases hq
  by_cases h8 : t.kind = 8
  · rw [if_pos h8]
    by_cases e : t.name = x
    · rw [e]; exact List.mem_append_right _ (.head _)
    · exact List.mem_append_left _ (h x (by rw [frT_else x t h9 (fun q => e q.2)]; exact List.any_eq_true.2 ⟨q, hq, hx⟩))
  · rw [if_neg h8]
    exact h x (by rw [frT_else x t h9 (fun q => h8 q.1)]; exact List.any_eq_true.2 ⟨q, hq, hx⟩)
/-- what graph.Back makes, and how many parts it has made of it -/
def backP (g : List Nd) : Ty × SB := bkT g 61 (fun _ => false) 0 (fun _ => false, 0)
/-- where it is not too large it is a right type that does what the graph does -/
theorem back_ok {g : List Nd} (hg : GN g) (hl : g.length ≤ 200) (h : (backP g).2.2 ≤ 60) : chkTy (backP g).1 = 0 ∧ den (backP g).1 e0 = fun k => gT g k 0 := by
  have K := bk_ok hg (fun i j hi hj => nmN_inj (by omega) (by omega)) (fun i hi => (nm_at (by omega)).2) 61 (fun _ => false) 0 (fun _ => false, 0) (by show 61 ≤ 61 + 0; omega) hg.pos (fun j hj => by cases hj) h
  have hcl : clT (backP g).1 [] := cl_of_fr _ (gdT_wf _ K.gd) [] fun x hx => by
    obtain ⟨j, p, _⟩ := K.fr x hx
    cases p
  have hsz : sizeT (backP g).1 ≤ 60 := by
    have := K.sz
    have h2 : (bkT g 61 (fun _ => false) 0 (fun _ => false, 0)).2.2 ≤ 60 := h
    show sizeT (bkT g 61 (fun _ => false) 0 (fun _ => false, 0)).1 ≤ 60
    have h3 : (0 : Nat) + sizeT (bkT g 61 (fun _ => false) 0 (fun _ => false, 0)).1 = _ := K.sz
    omega
  refine ⟨?_, K.dn e0 fun j hj => by cases hj⟩
  rcases chkTy_or K.gd hcl (by show sizeT (backP g).1 ≤ _; omega) with q | q
  · exact q
  · have q2 : 60 < sizeT (backP g).1 := q.2
    omega
end Go.Proofs.YtnedgkcejlhnbaaDoor
/-
  The contract of graph.nodeName.
-/
namespace Go.Proofs.YtnedgkcejlhnbaaDoor
open Go.RowKit Go.Shelf

theorem conv1 (w : World) (z : Int) : (convert 125 9 (.slice (some ⟨w.heap.size, 0, none⟩) 1 1)).run Tryd.prog (w.alloc (.cells #[.int .u8 z] 5)) = .ok (.string ⟨#[UInt8.ofNat z.toNat]⟩) (w.alloc (.cells #[.int .u8 z] 5)) := by
  rw [run_convert_bytes_string (P := Tryd.prog) _ 125 9 5 _ _ _ Tryd.underlying125 Tryd.underlying5 Tryd.underlying9]
  rw [run_bytesToString _ _ _ _ [z]]
  · rfl
  · rw [run_loadCells _ ⟨w.heap.size, 0, none⟩ 1 (fun _ => .int .u8 z) (fun j hj => by
      obtain rfl : j = 0 := by omega
      show World.cell? _ ⟨w.heap.size, 0, none⟩ = _
      go_cell)]
    rfl
theorem conv2 (w : World) (z y : Int) : (convert 125 9 (.slice (some ⟨w.heap.size, 0, none⟩) 2 2)).run Tryd.prog (w.alloc (.cells #[.int .u8 z, .int .u8 y] 5)) = .ok (.string ⟨#[UInt8.ofNat z.toNat, UInt8.ofNat y.toNat]⟩) (w.alloc (.cells #[.int .u8 z, .int .u8 y] 5)) := by
  rw [run_convert_bytes_string (P := Tryd.prog) _ 125 9 5 _ _ _ Tryd.underlying125 Tryd.underlying5 Tryd.underlying9]
  rw [run_bytesToString _ _ _ _ [z, y]]
  · rfl
  · rw [run_loadCells _ ⟨w.heap.size, 0, none⟩ 2 (fun j => if j = 0 then .int .u8 z else .int .u8 y) (fun j hj => by
      have : j = 0 ∨ j = 1 := by omega
      rcases this with rfl | rfl
      · show World.cell? _ ⟨w.heap.size, 0, none⟩ = _
        go_cell
      · show World.cell? _ ⟨w.heap.size, 1, none⟩ = _
        go_cell)]
    rfl
set_option maxRecDepth 100000 in
set_option maxHeartbeats 4000000 in
theorem nodeName_any (i : Nat) (hi : i < 200) (w : World) :
    Calls Tryd.prog 46 #[.int .i64 (i : Int)] w fun e w' => e = .returned (.string (nmN i)) ∧ Below w.heap.size w w' := by
  by_cases h : i < 26
  · have hz : (i : Int) < 26 := by omega
    have HN := hideK (show (⟨#[UInt8.ofNat (97 + (i : Int) % 26).toNat]⟩ : ByteArray) = nmN i from by
      unfold nmN
      rw [if_pos h, show (97 + (i : Int) % 26).toNat = 97 + i by omega])
    go_enter Tryd.func46, Tryd.ntmps46
    go_wp2_with fail
    rw [conv1]
    go_wp2_with fail
    go_ret
    exact ⟨congrArg (fun b => Ending.returned (Value.string b)) HN.out, (Below.refl _ _).alloc (Nat.le_refl _) _⟩
  · have hz : ¬ (i : Int) < 26 := by omega
    have HN := hideK (show (⟨#[UInt8.ofNat ((97 + (i : Int) / 26).toNat - 1), UInt8.ofNat (97 + (i : Int) % 26).toNat]⟩ : ByteArray) = nmN i from by
      unfold nmN
      rw [if_neg h, show (97 + (i : Int) / 26).toNat - 1 = 97 + i / 26 - 1 by omega, show (97 + (i : Int) % 26).toNat = 97 + i % 26 by omega])
    go_enter Tryd.func46, Tryd.ntmps46
    go_wp2_with fail
    rw [conv2]
    go_wp2_with fail
    go_ret
    exact ⟨congrArg (fun b => Ending.returned (Value.string b)) HN.out, (Below.refl _ _).alloc (Nat.le_refl _) _⟩
end Go.Proofs.YtnedgkcejlhnbaaDoor

/-
  The contracts of duetref.small, IsName, levels and Level, for every text.
-/
namespace Go.Proofs.YtnedgkcejlhnbaaDoor
open Go.RowKit Go.Shelf Go.Sort

end Go.Proofs.YtnedgkcejlhnbaaDoor

/-
  The contracts of duetref.IsVar and duetref.Labels.
-/
namespace Go.Proofs.YtnedgkcejlhnbaaDoor
open Go.RowKit Go.Shelf

end Go.Proofs.YtnedgkcejlhnbaaDoor

/-
  The contract of duetref.part: has a part of a type just what its kind has?
-/
namespace Go.Proofs.YtnedgkcejlhnbaaDoor
open Go.RowKit Go.Shelf

end Go.Proofs.YtnedgkcejlhnbaaDoor

/-
  Plain: a list of parts, each with the names around it, that are looked at one after another, each one's Kids put ahead of the others: it finds nothing just if Check finds nothing.
-/
namespace Go.Proofs.YtnedgkcejlhnbaaDoor
open Go.RowKit

end Go.Proofs.YtnedgkcejlhnbaaDoor

/-
  append onto a row that a call owns, from whatever lies in memory: at a walk's step and at a step of a region that draws its order. The list of parts that duetref.Type looks at: cells, and where what they name lies.
-/
namespace Go.Proofs.YtnedgkcejlhnbaaDoor
open Go.RowKit Go.Shelf

/-- a part on the list: a type, where its Labels and its Kids lie; the names around it, and where they lie -/
abbrev WTk := Ty × (Option Addr × Nat) × (Option Addr × Nat) × List ByteArray × (Option Addr × Nat)
/-- what the parts on the list name lies in memory: of the type below block B, of the names now -/
def TOW (w : World) (W : World) (ts : List WTk) : Prop := ∀ t ∈ ts, TyBw t.1 ∧ LA w w.heap.size t.1.labels t.2.1.1 ∧ (∃ d, KT w w.heap.size d t.1.kids t.2.2.1.1) ∧ LA W W.heap.size t.2.2.2.1 t.2.2.2.2.1 ∧ t.2.2.2.1.length ≤ 60
theorem TOW.keep {w W W' : World} {ts : List WTk} (h : TOW w W ts) (hb : Below W.heap.size W W') : TOW w W' ts := fun t ht =>
  have q := h t ht
  ⟨q.1, q.2.1, q.2.2.1, NAt.mono hb.size (NAt.keep hb q.2.2.2.1), q.2.2.2.2⟩
end Go.Proofs.YtnedgkcejlhnbaaDoor

/-
  The contract of duetref.Type: it finds nothing just if Check finds nothing.
-/
namespace Go.Proofs.YtnedgkcejlhnbaaDoor
open Go.RowKit Go.Shelf

end Go.Proofs.YtnedgkcejlhnbaaDoor

/-
  The contract of duetkeep.free: does a name stand in a type that no Rec in it binds?
-/
namespace Go.Proofs.YtnedgkcejlhnbaaDoor
open Go.RowKit Go.Shelf

end Go.Proofs.YtnedgkcejlhnbaaDoor
