/-
  The contract of exprs.folded, for every right part; utf8.ValidString's and strings.Compare's contracts are hypotheses here.
-/
import Derived.Test.YtecapnipkngniaaGreatDoorYb
namespace Go.Proofs.YtecapnipkngniaaGreatDoor
open Go.RowKit Go.Shelf
variable (Tabs : World → Prop)

theorem foldN_same1 (p : Ex) (h : p.kind ≠ 3) : foldN p = p := by unfold foldN; rw [if_pos (.inl h)]
theorem foldN_same2 (p : Ex) (h : anyNL p.kids = true) : foldN p = p := by unfold foldN; rw [if_pos (.inr h)]
theorem foldN_same3 (p : Ex) (h : (sortX E0 p).2 ≠ 0) : foldN p = p := by
  unfold foldN; split
  · rfl
  · rfl
theorem foldN_new (p : Ex) (h : p.kind = 3) (h1 : anyNL p.kids = false) (h2 : (sortX E0 p).2 = 0) : foldN p = Ex.lit (valX F0 p) := by
  unfold foldN; rw [if_neg, if_neg]
  · exact fun g => g h2
  · rintro (g | g)
    · exact g h
    · have : anyNL p.kids = true := g
      rw [h1] at this; cases this
/-- what folded hands back: its part, or one with no Kids -/
def MadeX (w : World) (p : Ex) (ao : Option Addr) (y : Ex) (e : Ending) (w' : World) : Prop :=
  (∃ ao' cap', e = .returned (exVal y ao' cap') ∧ (y.kids = [] ∨ (y = p ∧ ao' = ao)) ∧ ExBd y cap') ∧ Below w.heap.size w w'
theorem made_same (w w' : World) (p : Ex) (ao : Option Addr) (cap : Nat) (hbd : ExBd p cap) (hb : Below w.heap.size w w') : MadeX w p ao p (.returned (exVal p ao cap)) w' :=
  ⟨⟨ao, cap, rfl, .inr ⟨rfl, rfl⟩, hbd⟩, hb⟩
def FOSaid (d : Nat) : Prop := ∀ (p : Ex) (ao : Option Addr) (cap B : Nat) (w : World), wfX p → ExBd p cap → KA w B d p.kids ao → B ≤ w.heap.size → Tabs w →
  Calls Tryz.prog 34 #[exVal p ao cap] w (MadeX w p ao (foldN p))

set_option maxHeartbeats 400000 in
theorem folded_a (p : Ex) (ao : Option Addr) (cap : Nat) (w : World) (hbd : ExBd p cap) (h3 : p.kind ≠ 3) :
    Calls Tryz.prog 34 #[exVal p ao cap] w (MadeX w p ao (foldN p)) := by
  rw [foldN_same1 p h3]
  have HM := fun w' => made_same w w' p ao cap hbd
  clear hbd
  simp only [exVal] at HM ⊢
  generalize MadeX w p ao p = Q at HM ⊢
  go_enter Tryz.func34, Tryz.ntmps34
  go_wp2_with fail
  refine bodyPost_ret (by simp [results, Tryz.results34, go_sem]) rfl (HM _ (by go_grown))

/-- folded's two blocks: its part, and what it hands back -/
structure FW (w : World) (p : Ex) (ao : Option Addr) (cap : Nat) (W : World) : Prop where
  c0 : W.cell? ⟨w.heap.size, 0, none⟩ = some (.int .i64 p.kind)
  c1 : W.cell? ⟨w.heap.size, 1, none⟩ = some (.string p.name)
  c2 : W.cell? ⟨w.heap.size, 2, none⟩ = some (.int .i64 p.so)
  c3 : W.cell? ⟨w.heap.size, 3, none⟩ = some (.int .i64 p.n)
  c4 : W.cell? ⟨w.heap.size, 4, none⟩ = some (.string p.s)
  c5 : W.cell? ⟨w.heap.size, 5, none⟩ = some (.slice ao p.kids.length cap)
  z : ZE W (w.heap.size + 1)
  bl : Below w.heap.size w W
theorem FW.keep {w : World} {p : Ex} {ao : Option Addr} {cap : Nat} {W W' : World} (h : FW w p ao cap W) (hb : Below W.heap.size W W') : FW w p ao cap W' := by
  have hl : w.heap.size < W.heap.size := Nat.lt_trans (Nat.lt_succ_self _) h.z.lt
  exact ⟨(hb.cell (p := ⟨_, 0, none⟩) hl).trans h.c0, (hb.cell (p := ⟨_, 1, none⟩) hl).trans h.c1, (hb.cell (p := ⟨_, 2, none⟩) hl).trans h.c2, (hb.cell (p := ⟨_, 3, none⟩) hl).trans h.c3, (hb.cell (p := ⟨_, 4, none⟩) hl).trans h.c4, (hb.cell (p := ⟨_, 5, none⟩) hl).trans h.c5, h.z.keep hb, h.bl.trans (hb.mono h.bl.size)⟩
def fwW (w : World) (p : Ex) (ao : Option Addr) (cap : Nat) : World := (w.alloc (.cells #[.int .i64 p.kind, .string p.name, .int .i64 p.so, .int .i64 p.n, .string p.s, .slice ao p.kids.length cap] 26)).alloc (.cells #[.int .i64 0, .string ⟨#[]⟩, .int .i64 0, .int .i64 0, .string ⟨#[]⟩, .slice none 0 0] 26)
theorem FW.new (w : World) (p : Ex) (ao : Option Addr) (cap : Nat) : FW w p ao cap (fwW w p ao cap) := by
  unfold fwW
  refine ⟨by go_cell, by go_cell, by go_cell, by go_cell, by go_cell, by go_cell, ?_, by go_grown⟩
  have := ZE.new (w.alloc (.cells #[.int .i64 p.kind, .string p.name, .int .i64 p.so, .int .i64 p.n, .string p.s, .slice ao p.kids.length cap] 26)) 26
  simpa using this

set_option maxHeartbeats 400000 in
theorem folded_b (d : Nat) (p : Ex) (ao : Option Addr) (cap B : Nat) (w : World) (hbd : ExBd p cap) (hka : KA w B d p.kids ao) (hB : B ≤ w.heap.size) (h3 : p.kind = 3) (hl : p.kids.length ≤ 9223372036854775806) (h : anyNL p.kids = true) :
    Calls Tryz.prog 34 #[exVal p ao cap] w (MadeX w p ao (foldN p)) := by
  rw [foldN_same2 p h]
  have HM := fun w' => made_same w w' p ao cap hbd
  have c := hasNL_any d p.kids ao cap w.heap.size (fwW w p ao cap) ((hka.mono hB).keep (FW.new w p ao cap).bl) (FW.new w p ao cap).bl.size hl
  rw [h] at c
  have HF := FW.new w p ao cap
  clear hka hbd h
  simp only [exVal] at HM ⊢
  generalize MadeX w p ao p = Q at HM ⊢
  simp only [fwW] at c HF
  rw [h3] at c HF HM ⊢
  go_enter Tryz.func34, Tryz.ntmps34
  go_wp2_with fail
  refine c.mono ?_
  rintro e w1 ⟨rfl, hb1⟩
  obtain ⟨y0, y1, y2, y3, y4, y5, hz, hbl⟩ := HF.keep hb1
  rw [h3] at y0
  obtain ⟨hzl, z0, z1, z2, z3, z4, z5, zf⟩ := hz
  have zf0 := zf 0
  have zf1 := zf 1
  have zf2 := zf 2
  have zf3 := zf 3
  have zf4 := zf 4
  have zf5 := zf 5
  have HMM := HM
  clear c HF hb1 zf
  go_wp2_with fail
  refine bodyPost_ret (by simp [results, Tryz.results34, go_sem, z0, z1, z2, z3, z4, z5]) rfl (HMM _ (by go_grown))

theorem ns_nil (W : World) (B : Nat) : NSAt W B [] [] none none := by
  constructor <;> simp
theorem env_nil (W : World) (B : Nat) : EnvAt W B [] none := by
  constructor <;> simp

set_option maxHeartbeats 400000 in
theorem folded_c (d : Nat) (p : Ex) (ao : Option Addr) (cap B : Nat) (w : World) (hw : wfX p) (hbd : ExBd p cap) (hka : KA w B d p.kids ao) (hB : B ≤ w.heap.size) (h3 : p.kind = 3) (hl : p.kids.length ≤ 9223372036854775806) (h : anyNL p.kids = false) (hs : (sortX E0 p).2 ≠ 0) :
    Calls Tryz.prog 34 #[exVal p ao cap] w (MadeX w p ao (foldN p)) := by
  rw [foldN_same3 p hs]
  have HM := fun w' => made_same w w' p ao cap hbd
  have hkw : ∀ W, Below w.heap.size w W → KA W w.heap.size d p.kids ao := fun W hb => (hka.mono hB).keep hb
  have c := hasNL_any d p.kids ao cap w.heap.size (fwW w p ao cap) (hkw _ (FW.new w p ao cap).bl) (FW.new w p ao cap).bl.size hl
  rw [h] at c
  have c2 := fun W (hb : Below w.heap.size w W) => sortOf_any [] [] none none 0 0 d p ao cap w.heap.size W hw hbd (hkw _ hb) (ns_nil W _) hb.size
  have e0 : lookS [] [] = E0 := rfl
  simp only [e0, List.length_nil] at c2
  have HF := FW.new w p ao cap
  clear hka hbd h hw hkw e0
  simp only [exVal] at HM c2 ⊢
  generalize MadeX w p ao p = Q at HM ⊢
  simp only [fwW] at c HF
  rw [h3] at c HF HM ⊢
  simp only [h3] at c2
  generalize (sortX E0 p).1 = q1 at c2
  generalize (sortX E0 p).2 = q2 at c2 hs
  go_enter Tryz.func34, Tryz.ntmps34
  go_wp2_with fail
  refine c.mono ?_
  rintro e w1 ⟨rfl, hb1⟩
  have HF1 := HF.keep hb1
  have C2 := c2 w1 HF1.bl
  obtain ⟨y0, y1, y2, y3, y4, y5, hz, hbl⟩ := id HF1
  rw [h3] at y0
  have HMM := HM
  have HH : Hid (FW w p ao cap w1) := HF1
  clear c HF HF1 hb1 c2 HM hz
  go_wp2_with fail
  refine C2.mono ?_
  rintro e w2 ⟨rfl, hb2⟩
  clear C2 y0 y1 y2 y3 y4 y5 hbl
  obtain ⟨y0, y1, y2, y3, y4, y5, hz, hbl⟩ := HH.out.keep hb2
  rw [h3] at y0
  obtain ⟨hzl, z0, z1, z2, z3, z4, z5, zf⟩ := hz
  have zf0 := zf 0
  have zf1 := zf 1
  have zf2 := zf 2
  have zf3 := zf 3
  have zf4 := zf 4
  have zf5 := zf 5
  clear zf hb2
  go_wp2_with fail
  refine bodyPost_ret (by simp [results, Tryz.results34, go_sem, z0, z1, z2, z3, z4, z5]) rfl (HMM _ (by go_grown))

def InW (z : Int) : Prop := -9223372036854775808 ≤ z ∧ z ≤ 9223372036854775807
theorem in_w64 (z : Int) : InW (w64 z) := by unfold InW w64 wrap64; omega
theorem in_quo (a b : Int) : InW (quoZ a b) := by
  unfold quoZ; split
  · unfold InW; omega
  · exact in_w64 _
theorem in_tru (b : Bool) : InW (truV b).n := by cases b <;> simp [truV, InW]
theorem in_one (l : List UInt8) (a : Vl) : InW (oneV l a).n := by
  unfold oneV
  split
  · exact in_tru _
  · split
    · exact in_w64 _
    · show InW (lenZ vD a.so a.n a.s)
      unfold lenZ
      split
      · rename_i h
        have h1 := Lib.runeCount_le a.s
        have h2 : chkZ vD a.so a.n a.s = 0 := by unfold needZ1 at h; split at h; · assumption
                                                 · exact h
        have h3 := chk_size _ _ _ h2
        unfold InW; omega
      · unfold InW; omega
theorem in_two (l : List UInt8) (a b : Vl) : InW (twoV l a b).n := by
  unfold twoV
  split
  · exact in_tru _
  · split
    · exact in_tru _
    · split
      · unfold cmpV; split
        · exact in_tru _
        · split <;> exact in_tru _
      · split
        · unfold joinV; split <;> simp [InW]
        · show InW (numZ l a.n b.n)
          unfold numZ
          split
          · exact in_w64 _
          · split
            · exact in_w64 _
            · split
              · exact in_w64 _
              · split
                · exact in_quo _ _
                · exact in_w64 _
theorem val_bd (p : Ex) (hw : wfX p) (h3 : p.kind = 3) : InW (valX F0 p).n := by
  rcases wf_cases p hw with ⟨h, _⟩ | ⟨h, _⟩ | ⟨_, a, hk, _⟩ | ⟨_, a, b, hk, _⟩
  · omega
  · omega
  · rw [val_one _ p a h3 hk]; exact in_one _ _
  · rw [val_two _ p a b h3 hk]; exact in_two _ _ _

set_option maxHeartbeats 400000 in
theorem folded_d (hV : VSaid vD Tabs) (hK : ∀ w w', Tabs w → Below w.heap.size w w' → Tabs w') (hC : CSaid) (d : Nat) (p : Ex) (ao : Option Addr) (cap B : Nat) (w : World) (hw : wfX p) (hbd : ExBd p cap) (hka : KA w B d p.kids ao) (hB : B ≤ w.heap.size) (hT : Tabs w) (h3 : p.kind = 3) (hl : p.kids.length ≤ 9223372036854775806) (h : anyNL p.kids = false) (hs : (sortX E0 p).2 = 0) :
    Calls Tryz.prog 34 #[exVal p ao cap] w (MadeX w p ao (foldN p)) := by
  rw [foldN_new p h3 h hs]
  have hkw : ∀ W, Below w.heap.size w W → KA W w.heap.size d p.kids ao := fun W hb => (hka.mono hB).keep hb
  have c := hasNL_any d p.kids ao cap w.heap.size (fwW w p ao cap) (hkw _ (FW.new w p ao cap).bl) (FW.new w p ao cap).bl.size hl
  rw [h] at c
  have c2 := fun W (hb : Below w.heap.size w W) => sortOf_any [] [] none none 0 0 d p ao cap w.heap.size W hw hbd (hkw _ hb) (ns_nil W _) hb.size
  have e0 : lookS [] [] = E0 := rfl
  simp only [e0, List.length_nil] at c2
  have c3 := fun W (hb : Below w.heap.size w W) => valueOf_any Tabs hV hK hC [] none 0 (by simp) d p ao cap w.heap.size W hw hbd (hkw _ hb) (env_nil W _) hb.size (hK _ _ hT hb)
  have f0 : lookV [] = F0 := rfl
  simp only [f0, List.length_nil] at c3
  have hgood := (sort_val E0 F0 (fun nm so hE => by rw [E0_bad] at hE; simp at hE) p hw _ (Prod.ext rfl hs)).1
  have c4 := fun W => literal_any (valX F0 p) W
  have HM : ∀ w', Below w.heap.size w w' → MadeX w p ao (Ex.lit (valX F0 p)) (.returned (exVal (Ex.lit (valX F0 p)) none 0)) w' := by
    intro w' hb
    refine ⟨⟨none, 0, rfl, .inl rfl, ?_⟩, hb⟩
    have b1 := val_bd p hw h3
    have b2 := chk_size _ _ _ hgood
    refine ⟨?_, ?_, b1.1, b1.2, Nat.le_refl _, by omega⟩
    · show (⟨#[]⟩ : ByteArray).size ≤ _; decide
    · show (valX F0 p).s.size ≤ _; omega
  have HF := FW.new w p ao cap
  clear hka hbd h hw hkw e0 f0
  generalize valX F0 p = v at *
  obtain ⟨so, n, s⟩ := v
  simp only [exVal, Ex.lit, List.length_nil, vlV] at HM c2 c3 c4 ⊢
  generalize MadeX w p ao ⟨1, ⟨#[]⟩, so, n, s, []⟩ = Q at HM ⊢
  simp only [fwW] at c HF
  rw [h3] at c HF ⊢
  simp only [h3] at c2 c3
  rw [hs] at c2
  generalize (sortX E0 p).1 = q1 at c2
  go_enter Tryz.func34, Tryz.ntmps34
  go_wp2_with fail
  refine c.mono ?_
  rintro e w1 ⟨rfl, hb1⟩
  have HF1 := HF.keep hb1
  have C2 := c2 w1 HF1.bl
  obtain ⟨y0, y1, y2, y3, y4, y5, hz, hbl⟩ := id HF1
  rw [h3] at y0
  have HMM := HM
  have HH : Hid (FW w p ao cap w1) := HF1
  clear c HF HF1 hb1 c2 HM hz
  go_wp2_with fail
  refine C2.mono ?_
  rintro e w2 ⟨rfl, hb2⟩
  clear C2 y0 y1 y2 y3 y4 y5 hbl
  have HH2 : Hid (FW w p ao cap w2) := HH.out.keep hb2
  obtain ⟨y0, y1, y2, y3, y4, y5, _, hbl⟩ := id HH2.out
  rw [h3] at y0
  have C3 := c3 w2 hbl
  clear hb2 HH c3 
  go_wp2_with fail
  refine C3.mono ?_
  rintro e w3 ⟨rfl, hb3⟩
  have HH3 : Hid (FW w p ao cap w3) := HH2.out.keep hb3
  have C4 := c4 w3
  clear C3 c4 hb3 HH2
  go_wp2_with fail
  refine C4.mono ?_
  rintro e w4 ⟨rfl, hb4⟩
  clear y0 y1 y2 y3 y4 y5 hbl
  obtain ⟨y0, y1, y2, y3, y4, y5, hz, hbl⟩ := HH3.out.keep hb4
  obtain ⟨hzl, z0, z1, z2, z3, z4, z5, zf⟩ := hz
  have zf0 := zf 0
  have zf1 := zf 1
  have zf2 := zf 2
  have zf3 := zf 3
  have zf4 := zf 4
  have zf5 := zf 5
  clear zf hb4 C4
  go_wp2_with fail
  refine bodyPost_ret (by simp [results, Tryz.results34, go_sem, z0, z1, z2, z3, z4, z5]) rfl (HMM _ (by go_grown))

theorem kids_two (p : Ex) (hw : wfX p) : p.kids.length ≤ 2 := by
  rcases wf_cases p hw with ⟨_, hk, _⟩ | ⟨_, hk, _⟩ | ⟨_, a, hk, _⟩ | ⟨_, a, b, hk, _⟩ <;> rw [hk] <;> simp
theorem folded_any (hV : VSaid vD Tabs) (hK : ∀ w w', Tabs w → Below w.heap.size w w' → Tabs w') (hC : CSaid) (d : Nat) : FOSaid Tabs d := by
  intro p ao cap B w hw hbd hka hB hT
  have hl : p.kids.length ≤ 9223372036854775806 := Nat.le_trans (kids_two p hw) (by omega)
  by_cases h3 : p.kind = 3
  · cases h : anyNL p.kids
    · by_cases hs : (sortX E0 p).2 = 0
      · exact folded_d Tabs hV hK hC d p ao cap B w hw hbd hka hB hT h3 hl h hs
      · exact folded_c d p ao cap B w hw hbd hka hB h3 hl h hs
    · exact folded_b d p ao cap B w hbd hka hB h3 hl h
  · exact folded_a p ao cap w hbd h3
end Go.Proofs.YtecapnipkngniaaGreatDoor
