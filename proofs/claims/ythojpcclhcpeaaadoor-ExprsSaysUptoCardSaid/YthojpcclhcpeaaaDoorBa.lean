/-
  Numbers as lists of words of 32 bits, the least first, in memory; and the contract of duetbig.trim, for every such list.
-/
import Derived.Test.YthojpcclhcpeaaaDoorRows
import Derived.WalkKit
import Derived.WalkSpells
import Derived.WalkLawsBesides
import Derived.Handy
import Derived.PlainAid
namespace Go.Proofs.YthojpcclhcpeaaaDoor
open Go.RowKit

/-- words, the least first, as a number -/
def val : List Nat → Nat
  | [] => 0
  | a :: r => a + 4294967296 * val r
theorem val_append : ∀ (a b : List Nat), val (a ++ b) = val a + 4294967296 ^ a.length * val b
  | [], b => by simp [val]
  | x :: a, b => by
    simp only [List.cons_append, val, val_append a b, List.length_cons, Nat.pow_succ]
    rw [Nat.mul_add, ← Nat.add_assoc, ← Nat.mul_assoc, Nat.mul_comm 4294967296 (4294967296 ^ a.length)]
def Small (ws : List Nat) : Prop := ∀ x ∈ ws, x < 4294967296
theorem val_lt : ∀ (ws : List Nat), Small ws → val ws < 4294967296 ^ ws.length
  | [], _ => by simp [val]
  | x :: r, h => by
    have h1 := h x (by simp)
    have h2 := val_lt r fun y hy => h y (by simp [hy])
    simp only [val, List.length_cons, Nat.pow_succ]
    rw [Nat.mul_comm (4294967296 ^ r.length)]
    have h3 : 4294967296 * (val r + 1) ≤ 4294967296 * 4294967296 ^ r.length := Nat.mul_le_mul_left _ h2
    omega
theorem val_zeros : ∀ (ws : List Nat), (∀ x ∈ ws, x = 0) → val ws = 0
  | [], _ => rfl
  | x :: r, h => by simp [val, h x (by simp), val_zeros r fun y hy => h y (by simp [hy])]

/-- the words of a number: no nought at the end -/
structure Words (ws : List Nat) (x : Nat) : Prop where
  small : Small ws
  val : val ws = x
  last : ∀ h : ws ≠ [], ws.getLast h ≠ 0

/-- words in memory -/
def U32 (W : World) (v : Value) (ws : List Nat) : Prop :=
  (v = .slice none 0 0 ∧ ws = []) ∨ ∃ g cap, v = .slice (some ⟨g, 0, none⟩) ws.length cap ∧ ws.length ≤ cap ∧ g < W.heap.size ∧ ∀ j, j < ws.length → W.cell? ⟨g, j, none⟩ = some (.int .u32 (ws.getD j 0 : Nat))
theorem U32.keep {W W' : World} {v : Value} {ws : List Nat} (h : U32 W v ws) (hb : Below W.heap.size W W') : U32 W' v ws := by
  rcases h with h | ⟨g, cap, h1, h2, h3, h4⟩
  · exact .inl h
  · exact .inr ⟨g, cap, h1, h2, Nat.lt_of_lt_of_le h3 hb.size, fun j hj => (hb.cell (p := ⟨g, j, none⟩) h3).trans (h4 j hj)⟩
def NumAt (W : World) (v : Value) (x : Nat) : Prop := ∃ ws, Words ws x ∧ U32 W v ws
theorem NumAt.keep {W W' : World} {v : Value} {x : Nat} (h : NumAt W v x) (hb : Below W.heap.size W W') : NumAt W' v x := by
  obtain ⟨ws, h1, h2⟩ := h
  exact ⟨ws, h1, h2.keep hb⟩

theorem getD_mem (ws : List Nat) (j : Nat) (h : j < ws.length) : ws.getD j 0 ∈ ws := by
  rw [List.getD, List.getElem?_eq_getElem h]; simp

theorem trimmed (ws : List Nat) (n : Nat) (hn : n ≤ ws.length) (hz : ∀ j, n ≤ j → j < ws.length → ws.getD j 0 = 0) (hl : n = 0 ∨ ws.getD (n - 1) 0 ≠ 0) (hs : Small ws) : Words (ws.take n) (val ws) := by
  refine ⟨fun x hx => hs x (List.mem_of_mem_take hx), ?_, fun h => ?_⟩
  · have e := val_append (ws.take n) (ws.drop n)
    rw [List.take_append_drop] at e
    rw [e, val_zeros (ws.drop n) ?_]
    · simp
    · intro x hx
      obtain ⟨i, hi, rfl⟩ := List.getElem_of_mem hx
      rw [List.getElem_drop]
      have hlt : n + i < ws.length := by simp at hi; omega
      have := hz (n + i) (by omega) hlt
      rwa [List.getD, List.getElem?_eq_getElem hlt] at this
  · rcases hl with rfl | hl
    · simp at h
    · rw [List.getLast_eq_getElem]
      have hlen : (ws.take n).length = n := by rw [List.length_take]; omega
      have hpos : 0 < n := by rcases Nat.eq_zero_or_pos n with rfl | hp; simp at h; exact hp
      rw [List.getElem_take]
      have : n - 1 < ws.length := by omega
      rw [List.getD, List.getElem?_eq_getElem this] at hl
      simpa [hlen] using hl

set_option maxHeartbeats 1000000 in
theorem trim_any (g cap : Nat) (ws : List Nat) (w : World) (hs : Small ws) (hcap : ws.length ≤ cap) (hcm : cap ≤ 9223372036854775807) (hg : g < w.heap.size) (hc : ∀ j, j < ws.length → w.cell? ⟨g, j, none⟩ = some (.int .u32 (ws.getD j 0 : Nat))) :
    Calls Tryd.prog 144 #[.slice (some ⟨g, 0, none⟩) ws.length cap] w fun e w' => ∃ v, e = .returned v ∧ NumAt w v (val ws) ∧ w' = w := by
  go_enter Tryd.func144, Tryd.ntmps144
  go_wp2_with fail
  go_loop [3] (fun i => ∃ n : Nat, n ≤ ws.length ∧ i = .int .i64 (n : Int) ∧ ∀ j, n ≤ j → j < ws.length → ws.getD j 0 = 0) (fun i => (intOf i).toNat)
  case atStart => exact ⟨ws.length, Nat.le_refl _, rfl, fun j h1 h2 => by omega⟩
  case round =>
    obtain ⟨n, hn, rfl, hz⟩ := hrel
    have HZ : Hid (∀ j, n ≤ j → j < ws.length → ws.getD j 0 = 0) := hz
    clear hz
    by_cases h0 : n = 0
    · subst h0
      have hw := trimmed ws 0 (by omega) (fun j _ hj => HZ.out j (by omega) hj) (.inl rfl) hs
      clear hc
      go_wp2
      go_ret
      exact ⟨_, rfl, ⟨_, hw, .inr ⟨g, cap, by simp, by simp, hg, by simp⟩⟩, rfl⟩
    · obtain ⟨m, rfl⟩ : ∃ m, n = m + 1 := ⟨n - 1, by omega⟩
      have hcm' := hc m (by omega)
      generalize hx : ws.getD m 0 = x at hcm'
      have HX : Hid (ws.getD m 0 = x) := hx
      have HC : Hid (∀ j, j < ws.length → w.cell? ⟨g, j, none⟩ = some (.int .u32 (ws.getD j 0 : Nat))) := hc
      clear hc hx
      have hmz : (m : Int) < (ws.length : Int) := by omega
      by_cases hx0 : x = 0
      · subst hx0
        go_wp2
        go_round
        case rel => exact ⟨m, by omega, by go_num, fun j h1 h2 => by
          rcases Nat.lt_or_ge m j with h | h
          · exact HZ.out j (by omega) h2
          · have : j = m := by omega
            subst this; exact HX.out⟩
        case measure => simp [intOf]
      · have hxb : ((x : Int) == 0) = false := by simp; omega
        have hw := trimmed ws (m + 1) hn (fun j h1 h2 => HZ.out j h1 h2) (.inr (by rw [Nat.add_sub_cancel, HX.out]; exact hx0)) hs
        go_wp2
        go_ret
        refine ⟨_, rfl, ⟨_, hw, .inr ⟨g, cap, ?_, ?_, hg, fun j hj => ?_⟩⟩, rfl⟩
        · rw [List.length_take, Nat.min_eq_left hn]; rfl
        · rw [List.length_take]; omega
        · rw [List.length_take] at hj
          rw [HC.out j (by omega)]
          congr 2
          simp [List.getD, List.getElem?_take]
          rw [if_pos (by omega)]
end Go.Proofs.YthojpcclhcpeaaaDoor
