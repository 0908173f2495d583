/-
  duetkeep.ExprsSorted returns true, for every expression and every environment, where the tables of utf8 hold what the program's text lays.
-/
import Derived.Test.YtclbillfffpknaaDoorXo
import Derived.Test.YtclbillfffpknaaDoorXt
import Derived.Test.YtclbillfffpknaaDoorXv
namespace Go.Proofs.YtclbillfffpknaaDoor
open Go.RowKit Go.Shelf

/-- what the law asks, as it was answered -/
theorem sorted_pure (x : Ex) (bs : List (ByteArray × Vl)) :
    (badL bs ≠ 0 → (evlR x bs).2 ≠ 0) ∧ (badL bs = 0 → (srtR x (bs.map (·.1)) (bs.map (·.2.so))).2 = (evlR x bs).2 ∧ ((evlR x bs).2 = 0 → (evlR x bs).1.so = (srtR x (bs.map (·.1)) (bs.map (·.2.so))).1 ∧ chkZ vD (evlR x bs).1.so (evlR x bs).1.n (evlR x bs).1.s = 0)) := by
  unfold evlR srtR
  by_cases hc : chkX x = 0
  · rw [if_neg (by simpa using hc), if_pos hc]
    constructor
    · intro hb; rw [if_pos hb]; exact hb
    · intro hb
      rw [if_neg (by simpa using hb)]
      by_cases hs : (sortX (lookS (bs.map (·.1)) (bs.map (·.2.so))) x).2 = 0
      · rw [if_neg (by simpa using hs)]
        refine ⟨hs, fun _ => ?_⟩
        obtain ⟨g, e⟩ := sort_val _ (lookV bs) (look_both bs (badL_zero bs hb)) x (chk_wf x 0 hc) _ (Prod.ext rfl hs)
        exact ⟨e, g⟩
      · rw [if_pos hs]
        exact ⟨rfl, fun h => absurd h hs⟩
  · rw [if_pos hc, if_neg hc]
    exact ⟨fun _ => hc, fun _ => ⟨rfl, fun h => absurd h hc⟩⟩
theorem own_ns (W : World) (B : Nat) (bs : List (ByteArray × Vl)) (v u : Value) (hl : bs.length ≤ 2932031007402) (h1 : W.ownsRow B 9 1 v bs.length (nCells bs)) (h2 : W.ownsRow B 3 1 u bs.length (zCells bs)) :
    ∃ an am cn cm, v = .slice an (bs.map (·.1)).length cn ∧ u = .slice am (bs.map (·.1)).length cm ∧ NSAt W W.heap.size (bs.map (·.1)) (bs.map (·.2.so)) an am := by
  have row : ∀ (e : Nat) (v : Value) (f : (ByteArray × Vl) → Value), W.ownsRow B e 1 v bs.length (bs.map f) → ∃ an cn, v = .slice an bs.length cn ∧ (bs = [] ∨ ∃ b, an = some ⟨b, 0, none⟩ ∧ b < W.heap.size ∧ ∀ i (h : i < bs.length), W.cell? ⟨b, i, none⟩ = some (f bs[i])) := by
    intro e v f h
    rcases h.2 with ⟨rfl, hn⟩ | ⟨g, cap, cur, rfl, _, hg, hc, _, hsz, ht⟩
    · exact ⟨none, 0, by rw [hn], .inl (List.eq_nil_of_length_eq_zero hn)⟩
    · refine ⟨some ⟨g, 0, none⟩, cap, rfl, .inr ⟨g, rfl, (Array.getElem?_eq_some_iff.1 hg).1, fun i hi => ?_⟩⟩
      unfold World.cell?
      rw [hg]
      simp only [Option.isSome_none, Bool.false_eq_true, if_false]
      have : (cur.toList.take (bs.length * 1))[i]? = some (f bs[i]) := by rw [ht]; simp [hi]
      rw [List.getElem?_take] at this
      rw [if_pos (by omega)] at this
      simpa using this
  obtain ⟨an, cn, rfl, r1⟩ := row 9 v _ h1
  obtain ⟨am, cm, rfl, r2⟩ := row 3 u _ h2
  refine ⟨an, am, cn, cm, by simp, by simp, by simp, by simp; omega, ?_, ?_⟩
  · rcases r1 with rfl | ⟨b, rfl, hb, hc⟩
    · exact .inl rfl
    · exact .inr ⟨b, 0, rfl, hb, fun i hi => by have hi' : i < bs.length := by simpa using hi
                                                rw [Nat.zero_add, hc i hi']; simp⟩
  · rcases r2 with rfl | ⟨b, rfl, hb, hc⟩
    · exact .inl rfl
    · exact .inr ⟨b, 0, rfl, hb, fun i hi => by have hi' : i < bs.length := by simpa using hi
                                                rw [Nat.zero_add, hc i hi']; simp⟩

theorem seven : evlR ⟨1, ⟨#[]⟩, 1, 7, ⟨#[]⟩, []⟩ [] = (⟨1, 7, ⟨#[]⟩⟩, 0) := by
  have hc : chkX ⟨1, ⟨#[]⟩, 1, 7, ⟨#[]⟩, []⟩ = 0 := by
    unfold chkX; rw [chkP_eq, if_neg (by omega), if_neg (by simp [partOK]), if_pos rfl]; simp [chkZ, argZ]
  unfold evlR
  rw [if_neg (by simpa using hc), if_neg (by simp [badL]), sort_lit _ _ rfl, if_neg (by simp), val_lit _ _ rfl]

set_option maxRecDepth 100000 in
set_option maxHeartbeats 4000000 in
theorem sorted_any (d : Nat) (x : Ex) (ao : Option Addr) (cap : Nat) (bs : List (ByteArray × Vl)) (ae : Option Addr) (ce : Nat) (w : World) (hbd : ExBd x cap) (hka : KA w w.heap.size d x.kids ao) (henv : EnvAt w w.heap.size bs ae) (hlen : bs.length ≤ 2932031007402) (hss : ∀ p ∈ bs, p.2.s.size ≤ 9223372036854775807) (h0 : Tabs w) :
    Calls Tryd.prog 3 #[exVal x ao cap, .slice ae bs.length ce] w fun e w' => e = .returned (.bool true) ∧ Below w.heap.size w w' := by
  have hv := at_v h0
  have c7 := fun (W : World) (hT : AT w W) => eval_any (AT w) w.heap.size hv at_k at_k2 at_0 cSaid 0 ⟨1, ⟨#[]⟩, 1, 7, ⟨#[]⟩, []⟩ none 0 [] none 0 W ⟨by decide, by decide, by decide, by decide, by simp, by decide⟩ rfl ⟨by simp, .inl rfl⟩ (by simp) (by simp) hT
  have cO := fun (W : World) (hT : AT w W) => sortsOf_any bs ae ce W ((henv.keep hT).mono hT.size) hlen
  have cS := fun (W : World) (hT : AT w W) (an am : Option Addr) (cn cm : Nat) (hns : NSAt W W.heap.size (bs.map (·.1)) (bs.map (·.2.so)) an am) => sort_any (AT w) w.heap.size hv at_k at_k2 at_0 d x ao cap (bs.map (·.1)) (bs.map (·.2.so)) an am cn cm W hbd ((hka.keep hT).mono hT.size) hns hT
  have cE := fun (W : World) (hT : AT w W) => eval_any (AT w) w.heap.size hv at_k at_k2 at_0 cSaid d x ao cap bs ae ce W hbd ((hka.keep hT).mono hT.size) ((henv.keep hT).mono hT.size) hlen hss hT
  have cB := fun (W : World) (hT : AT w W) => hasBad_any w h0 bs ae ce W ((henv.keep hT).mono hT.size) hT
  have hp := sorted_pure x bs
  rw [seven] at c7
  generalize srtR x (bs.map (·.1)) (bs.map (·.2.so)) = r at cS hp
  generalize evlR x bs = ev at cE hp
  generalize badL bs = z at cB hp
  obtain ⟨r1, r2⟩ := r
  obtain ⟨⟨v0, v1, v2⟩, e2⟩ := ev
  have cV := fun (hs : v2.size ≤ 9223372036854775807) (W : World) (hT : AT w W) => check_any vD (AT w) hv at_k v0 v1 v2 W hs hT
  simp only at hp
  have hv2 : e2 = 0 → z = 0 → v2.size ≤ 9223372036854775807 := fun he hz => by have := chk_size _ _ _ ((hp.2 hz).2 he).2; omega
  have hE0 : ExAt (w.alloc (.cells #[.int .i64 x.kind, .string x.name, .int .i64 x.so, .int .i64 x.n, .string x.s, .slice ao x.kids.length cap] 26)) w.heap.size 0 x ao cap := ⟨by go_cell, by go_cell, by go_cell, by go_cell, by go_cell, by go_cell⟩
  have hT0 : AT w (w.alloc (.cells #[.int .i64 x.kind, .string x.name, .int .i64 x.so, .int .i64 x.n, .string x.s, .slice ao x.kids.length cap] 26)) := (Below.refl _ _).alloc (Nat.le_refl _) _
  simp only [exVal, vlV, List.length_nil] at c7 cS cE ⊢
  have C7 : Hid (∀ (W : World), AT w W → Calls Tryd.prog 5 #[.agg #[.int .i64 1, .string ⟨#[]⟩, .int .i64 1, .int .i64 7, .string ⟨#[]⟩, .slice none 0 0], .slice none 0 0] W fun e w' => e = .returned (.tuple #[.agg #[.int .i64 1, .int .i64 7, .string ⟨#[]⟩], .int .i64 0]) ∧ Below W.heap.size W w') := c7
  have CO := Hid.mk' cO
  have CS := Hid.mk' cS
  have CE := Hid.mk' cE
  have CB := Hid.mk' cB
  have CV := Hid.mk' cV
  have HP := Hid.mk' hp
  have HV := Hid.mk' hv2
  clear c7 cO cS cE cB cV hp hv2 hv hka henv hss hbd
  go_enter Tryd.func3, Tryd.ntmps3
  go_wp2_with fail
  refine (C7.out _ hT0).mono ?_
  rintro e w1 ⟨rfl, hb1⟩
  have hT1 := at_k _ _ hT0 hb1
  have hE1 := hE0.keep hb1 (by simp)
  have hs1 : w.heap.size < w1.heap.size := by have := hb1.size; simp at this; omega
  have hT2 := at_k _ _ hT1 ((Below.refl _ _).alloc (Nat.le_refl _) (.cells #[.int .i64 1, .int .i64 7, .string ⟨#[]⟩] 23))
  have hE2 := hE1.keep ((Below.refl w1.heap.size w1).alloc (Nat.le_refl _) (.cells #[.int .i64 1, .int .i64 7, .string ⟨#[]⟩] 23)) hs1
  clear hT0 hE0 hb1 C7
  go_wp2_with fail
  refine (CO.out _ hT2).mono ?_
  rintro e w3 ⟨v, u, rfl, ho1, ho2, hb3⟩
  have hT3 := at_k _ _ hT2 hb3
  have hE3 := hE2.keep hb3 (by simp; omega)
  obtain ⟨an, am, cn, cm, rfl, rfl, hns⟩ := own_ns _ _ _ _ _ hlen ho1 ho2
  have cS2 := CS.out _ hT3 an am cn cm hns
  simp only [List.length_map] at cS2
  obtain ⟨y0, y1, y2, y3, y4, y5⟩ := hE3
  simp only [Nat.zero_add] at y0 y1 y2 y3 y4 y5
  have hs3 : w.heap.size < w3.heap.size := by have := hb3.size; simp at this; omega
  clear ho1 ho2 hns CO hb3 hE1 hE2 hT1 hT2
  go_wp2_with fail
  refine cS2.mono ?_
  rintro e w4 ⟨rfl, hb4⟩
  have hT4 := at_k _ _ hT3 hb4
  have hE4 : ExAt w4 w.heap.size 0 x ao cap := ExAt.keep (W := w3) ⟨by simpa using y0, by simpa using y1, by simpa using y2, by simpa using y3, by simpa using y4, by simpa using y5⟩ hb4 hs3
  have hs4 : w.heap.size < w4.heap.size := by have := hb4.size; omega
  clear y0 y1 y2 y3 y4 y5
  obtain ⟨y0, y1, y2, y3, y4, y5⟩ := hE4
  simp only [Nat.zero_add] at y0 y1 y2 y3 y4 y5
  clear cS2 CS hb4 hT3
  go_wp2_with fail
  refine (CE.out _ hT4).mono ?_
  rintro e w5 ⟨rfl, hb5⟩
  have hT5 := at_k _ _ hT4 hb5
  have hT6 := at_k _ _ hT5 ((Below.refl _ _).alloc (Nat.le_refl _) (.cells #[.int .i64 v0, .int .i64 v1, .string v2] 23))
  have hX := Box.new w5 v0 v1 v2 23
  clear y0 y1 y2 y3 y4 y5 CE hb5 hT4 hT5
  go_wp2_with fail
  refine (CB.out _ hT6).mono ?_
  rintro e w7 ⟨rfl, hb7⟩
  have hT7 := at_k _ _ hT6 hb7
  obtain ⟨_, a0, a1, a2⟩ := hX.keep hb7
  clear CB hb7 hT6 hX
  by_cases hz : z = 0
  · subst hz
    obtain ⟨he, hg⟩ := HP.out.2 rfl
    subst he
    have HG := Hid.mk' hg
    have hnn : ((0 : Int) != 0) = false := rfl
    by_cases h2 : r2 = 0
    · subst h2
      obtain ⟨rfl, hgood⟩ := HG.out rfl
      have cV2 := CV.out (HV.out rfl rfl) w7 hT7
      rw [hgood] at cV2
      clear HG hg hgood CV HV HP
      go_wp2_with (go_at_call 11; refine cV2.mono ?_; rintro e w8 ⟨rfl, hb8⟩)
      go_ret
      exact ⟨by simp, Below.trans hT7 (hb8.mono hT7.size)⟩
    · have hb : (r2 != 0) = true := by simpa using h2
      clear HG hg CV HV HP h2
      go_wp2_with fail
      go_ret
      exact ⟨by simp, hT7⟩
  · have hzb : (z != 0) = true := by simpa using hz
    have he : e2 ≠ 0 := HP.out.1 hz
    have heb : (e2 != 0) = true := by simpa using he
    clear CV HV HP hz he
    go_wp2_with fail
    go_ret
    exact ⟨rfl, hT7⟩
end Go.Proofs.YtclbillfffpknaaDoor
