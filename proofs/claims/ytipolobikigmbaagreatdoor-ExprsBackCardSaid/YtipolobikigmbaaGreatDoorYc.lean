/-
  The contracts of exprs.isNoLiteral, slices.IndexFunc and slices.ContainsFunc with it, and exprs.literal and exprs.folded, for every right part; utf8.ValidString's and strings.Compare's contracts are hypotheses here.
-/
import Derived.Test.YtipolobikigmbaaGreatDoorYa
namespace Go.Proofs.YtipolobikigmbaaGreatDoor
open Go.RowKit Go.Shelf
variable (Tabs : World → Prop)

def isNL (k : Ex) : Bool := k.kind != 1
def anyNL (ks : List Ex) : Bool := ks.any isNL
/-- an expression of zeros in a block of its own -/
structure ZE (W : World) (b : Nat) : Prop where
  lt : b < W.heap.size
  c0 : W.cell? ⟨b, 0, none⟩ = some (.int .i64 0)
  c1 : W.cell? ⟨b, 1, none⟩ = some (.string ⟨#[]⟩)
  c2 : W.cell? ⟨b, 2, none⟩ = some (.int .i64 0)
  c3 : W.cell? ⟨b, 3, none⟩ = some (.int .i64 0)
  c4 : W.cell? ⟨b, 4, none⟩ = some (.string ⟨#[]⟩)
  c5 : W.cell? ⟨b, 5, none⟩ = some (.slice none 0 0)
  f : ∀ o, W.frozen? ⟨b, o, none⟩ = false
theorem ZE.keep {W W' : World} {b : Nat} (h : ZE W b) (hb : Below W.heap.size W W') : ZE W' b :=
  ⟨Nat.lt_of_lt_of_le h.lt hb.size, (hb.cell (p := ⟨b, 0, none⟩) h.lt).trans h.c0, (hb.cell (p := ⟨b, 1, none⟩) h.lt).trans h.c1, (hb.cell (p := ⟨b, 2, none⟩) h.lt).trans h.c2, (hb.cell (p := ⟨b, 3, none⟩) h.lt).trans h.c3, (hb.cell (p := ⟨b, 4, none⟩) h.lt).trans h.c4, (hb.cell (p := ⟨b, 5, none⟩) h.lt).trans h.c5, fun o => (hb.frozen (p := ⟨b, o, none⟩) h.lt).trans (h.f o)⟩
theorem ZE.new (W : World) (t : TypeId) : ZE (W.alloc (.cells #[.int .i64 0, .string ⟨#[]⟩, .int .i64 0, .int .i64 0, .string ⟨#[]⟩, .slice none 0 0] t)) W.heap.size :=
  ⟨by simp, by go_cell, by go_cell, by go_cell, by go_cell, by go_cell, by go_cell, fun o => by go_simp⟩

set_option maxHeartbeats 400000 in
theorem literal_any (v : Vl) (w : World) :
    Calls Tryz.prog 132 #[vlV v] w fun e w' => e = .returned (exVal (Ex.lit v) none 0) ∧ Below w.heap.size w w' := by
  obtain ⟨so, n, s⟩ := v
  simp only [vlV, exVal, Ex.lit, List.length_nil]
  go_enter Tryz.func132, Tryz.ntmps132
  go_wp2
  refine bodyPost_ret (v := .agg #[.int .i64 1, .string ⟨#[]⟩, .int .i64 so, .int .i64 n, .string s, .slice none 0 0]) (by simp [results, Tryz.results132, go_sem]) rfl ⟨rfl, ?_⟩
  go_grown
end Go.Proofs.YtipolobikigmbaaGreatDoor
/-
  The contract of exprs.folded, for every right part; utf8.ValidString's and strings.Compare's contracts are hypotheses here.
-/
namespace Go.Proofs.YtipolobikigmbaaGreatDoor
open Go.RowKit Go.Shelf
variable (Tabs : World → Prop)

theorem foldN_same1 (p : Ex) (h : p.kind ≠ 3) : foldN p = p := by unfold foldN; rw [if_pos (.inl h)]
theorem foldN_same2 (p : Ex) (h : anyNL p.kids = true) : foldN p = p := by unfold foldN; rw [if_pos (.inr h)]
theorem foldN_same3 (p : Ex) (h : (sortX E0 p).2 ≠ 0) : foldN p = p := by
  unfold foldN; split
  · rfl
  · rfl
theorem foldN_new (p : Ex) (h : p.kind = 3) (h1 : anyNL p.kids = false) (h2 : (sortX E0 p).2 = 0) : foldN p = Ex.lit (valX F0 p) := by
  unfold foldN; rw [if_neg, if_neg]
  · exact fun g => g h2
  · rintro (g | g)
    · exact g h
    · have : anyNL p.kids = true := g
      rw [h1] at this; cases this
/-- what folded hands back: its part, or one with no Kids -/
def MadeX (w : World) (p : Ex) (ao : Option Addr) (y : Ex) (e : Ending) (w' : World) : Prop :=
  (∃ ao' cap', e = .returned (exVal y ao' cap') ∧ (y.kids = [] ∨ (y = p ∧ ao' = ao)) ∧ ExBd y cap') ∧ Below w.heap.size w w'
theorem made_same (w w' : World) (p : Ex) (ao : Option Addr) (cap : Nat) (hbd : ExBd p cap) (hb : Below w.heap.size w w') : MadeX w p ao p (.returned (exVal p ao cap)) w' :=
  ⟨⟨ao, cap, rfl, .inr ⟨rfl, rfl⟩, hbd⟩, hb⟩
/-- folded's two blocks: its part, and what it hands back -/
structure FW (w : World) (p : Ex) (ao : Option Addr) (cap : Nat) (W : World) : Prop where
  c0 : W.cell? ⟨w.heap.size, 0, none⟩ = some (.int .i64 p.kind)
  c1 : W.cell? ⟨w.heap.size, 1, none⟩ = some (.string p.name)
  c2 : W.cell? ⟨w.heap.size, 2, none⟩ = some (.int .i64 p.so)
  c3 : W.cell? ⟨w.heap.size, 3, none⟩ = some (.int .i64 p.n)
  c4 : W.cell? ⟨w.heap.size, 4, none⟩ = some (.string p.s)
  c5 : W.cell? ⟨w.heap.size, 5, none⟩ = some (.slice ao p.kids.length cap)
  z : ZE W (w.heap.size + 1)
  bl : Below w.heap.size w W
theorem FW.keep {w : World} {p : Ex} {ao : Option Addr} {cap : Nat} {W W' : World} (h : FW w p ao cap W) (hb : Below W.heap.size W W') : FW w p ao cap W' := by
  have hl : w.heap.size < W.heap.size := Nat.lt_trans (Nat.lt_succ_self _) h.z.lt
  exact ⟨(hb.cell (p := ⟨_, 0, none⟩) hl).trans h.c0, (hb.cell (p := ⟨_, 1, none⟩) hl).trans h.c1, (hb.cell (p := ⟨_, 2, none⟩) hl).trans h.c2, (hb.cell (p := ⟨_, 3, none⟩) hl).trans h.c3, (hb.cell (p := ⟨_, 4, none⟩) hl).trans h.c4, (hb.cell (p := ⟨_, 5, none⟩) hl).trans h.c5, h.z.keep hb, h.bl.trans (hb.mono h.bl.size)⟩
def fwW (w : World) (p : Ex) (ao : Option Addr) (cap : Nat) : World := (w.alloc (.cells #[.int .i64 p.kind, .string p.name, .int .i64 p.so, .int .i64 p.n, .string p.s, .slice ao p.kids.length cap] 39)).alloc (.cells #[.int .i64 0, .string ⟨#[]⟩, .int .i64 0, .int .i64 0, .string ⟨#[]⟩, .slice none 0 0] 39)
theorem FW.new (w : World) (p : Ex) (ao : Option Addr) (cap : Nat) : FW w p ao cap (fwW w p ao cap) := by
  unfold fwW
  refine ⟨by go_cell, by go_cell, by go_cell, by go_cell, by go_cell, by go_cell, ?_, by go_grown⟩
  have := ZE.new (w.alloc (.cells #[.int .i64 p.kind, .string p.name, .int .i64 p.so, .int .i64 p.n, .string p.s, .slice ao p.kids.length cap] 39)) 39
  simpa using this

theorem ns_nil (W : World) (B : Nat) : NSAt W B [] [] none none := by
  constructor <;> simp
theorem env_nil (W : World) (B : Nat) : EnvAt W B [] none := by
  constructor <;> simp

def InW (z : Int) : Prop := -9223372036854775808 ≤ z ∧ z ≤ 9223372036854775807
theorem in_w64 (z : Int) : InW (w64 z) := by unfold InW w64 wrap64; omega
theorem in_quo (a b : Int) : InW (quoZ a b) := by
  unfold quoZ; split
  · unfold InW; omega
  · exact in_w64 _
theorem in_tru (b : Bool) : InW (truV b).n := by cases b <;> simp [truV, InW]
theorem in_one (l : List UInt8) (a : Vl) : InW (oneV l a).n := by
  unfold oneV
  split
  · exact in_tru _
  · split
    · exact in_w64 _
    · show InW (lenZ vD a.so a.n a.s)
      unfold lenZ
      split
      · rename_i h
        have h1 := Lib.runeCount_le a.s
        have h2 : chkZ vD a.so a.n a.s = 0 := by unfold needZ1 at h; split at h; · assumption
                                                 · exact h
        have h3 := chk_size _ _ _ h2
        unfold InW; omega
      · unfold InW; omega
theorem in_two (l : List UInt8) (a b : Vl) : InW (twoV l a b).n := by
  unfold twoV
  split
  · exact in_tru _
  · split
    · exact in_tru _
    · split
      · unfold cmpV; split
        · exact in_tru _
        · split <;> exact in_tru _
      · split
        · unfold joinV; split <;> simp [InW]
        · show InW (numZ l a.n b.n)
          unfold numZ
          split
          · exact in_w64 _
          · split
            · exact in_w64 _
            · split
              · exact in_w64 _
              · split
                · exact in_quo _ _
                · exact in_w64 _
theorem val_bd (p : Ex) (hw : wfX p) (h3 : p.kind = 3) : InW (valX F0 p).n := by
  rcases wf_cases p hw with ⟨h, _⟩ | ⟨h, _⟩ | ⟨_, a, hk, _⟩ | ⟨_, a, b, hk, _⟩
  · omega
  · omega
  · rw [val_one _ p a h3 hk]; exact in_one _ _
  · rw [val_two _ p a b h3 hk]; exact in_two _ _ _

theorem kids_two (p : Ex) (hw : wfX p) : p.kids.length ≤ 2 := by
  rcases wf_cases p hw with ⟨_, hk, _⟩ | ⟨_, hk, _⟩ | ⟨_, a, hk, _⟩ | ⟨_, a, b, hk, _⟩ <;> rw [hk] <;> simp
end Go.Proofs.YtipolobikigmbaaGreatDoor
