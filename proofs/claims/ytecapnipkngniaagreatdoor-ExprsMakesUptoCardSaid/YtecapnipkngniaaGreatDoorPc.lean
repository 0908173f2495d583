/-
  The contract of exprs.rebuilt with the closure of Put, for every right expression.
-/
import Derived.Test.YtecapnipkngniaaGreatDoorYh
import Derived.Test.YtecapnipkngniaaGreatDoorPb
namespace Go.Proofs.YtecapnipkngniaaGreatDoor
open Go.RowKit Go.Shelf
namespace PutR
def ptG (G : Ex → Ex) (x : Ex) : Ex := ⟨x.kind, x.name, x.so, x.n, x.s, x.kids.map G⟩
def RSaid (G : Ex → Ex) (bn bv : Nat) (nm : ByteArray) (v : Vl) (d : Nat) : Prop := ∀ (x : Ex) (ao : Option Addr) (cap B : Nat) (w : World), wfX x → ExBd x cap → KA w B d x.kids ao → B ≤ w.heap.size → PV bn bv nm v w →
  Calls Tryz.prog 31 #[exVal x ao cap, .func (.func 28) #[] #[.pointer (some ⟨bn, 0, none⟩), .pointer (some ⟨bv, 0, none⟩)]] w fun e w' => (∃ ao' cap', e = .returned (exVal (G x) ao' cap') ∧ KR w' (fun b => w.heap.size ≤ b ∧ b < w'.heap.size) d (G x).kids ao' ∧ ExBd (G x) cap') ∧ Below w.heap.size w w'
theorem ro_ka (G : Ex → Ex) (W : World) (p d : Nat) (ks : List Ex) (am : Option Addr) (hm : MK W p ks.length am) (h : RO G W (d - 1) ks ks.length am) (hd : ks = [] ∨ 0 < d) : KR W (fun b => p < b ∧ b < W.heap.size) d (ks.map G) am := by
  by_cases hk : ks = []
  · subst hk; exact KR.of_nil rfl
  · have hd' : 0 < d := hd.resolve_left hk
    obtain ⟨d', rfl⟩ : ∃ d', d = d' + 1 := ⟨d - 1, by omega⟩
    rcases hm with ⟨h0, _⟩ | ⟨m, rfl, h1, h2, _⟩
    · exact absurd (List.length_eq_zero_iff.1 h0) hk
    · refine .inr ⟨m, 0, rfl, ⟨h1, h2⟩, fun i hi => ?_⟩
      have hi' : i < ks.length := by simpa using hi
      obtain ⟨m', ao, cap, e, x1, x2, x3⟩ := h i hi' hi'
      injection e with e; injection e with e
      subst e
      rw [List.getElem_map, Nat.zero_add]
      exact ⟨ao, cap, x1, x2, x3.keep (fun _ _ _ => rfl) (fun b hb => ⟨by omega, hb.2⟩)⟩

/-- the round's end: the Kid is stored -/
theorem round_end {G : Ex → Ex} {w W : World} {x : Ex} {ao : Option Addr} {cap p m k e : Nat} {ao' : Option Addr} {cap' : Nat} (hk : k < x.kids.length) (R : RB w x ao cap p (.slice (some ⟨m, 0, none⟩) x.kids.length x.kids.length) W) (M : MK W p x.kids.length (some ⟨m, 0, none⟩)) (O : RO G W e x.kids k (some ⟨m, 0, none⟩)) (E : ExBd (G x.kids[k]) cap') (K : KR W (fun b => m < b ∧ b < W.heap.size) e (G x.kids[k]).kids ao')
    (W' : World) (hW : W' = st6 W m (k * 6) (.int .i64 (G x.kids[k]).kind) (.string (G x.kids[k]).name) (.int .i64 (G x.kids[k]).so) (.int .i64 (G x.kids[k]).n) (.string (G x.kids[k]).s) (.slice ao' (G x.kids[k]).kids.length cap')) :
    RB w x ao cap p (.slice (some ⟨m, 0, none⟩) x.kids.length x.kids.length) W' ∧ MK W' p x.kids.length (some ⟨m, 0, none⟩) ∧ RO G W' e x.kids (k + 1) (some ⟨m, 0, none⟩) := by
  have hc : ∀ b o, (b ≠ m ∨ o < k * 6 ∨ k * 6 + 6 ≤ o) → W'.cell? ⟨b, o, none⟩ = W.cell? ⟨b, o, none⟩ := by intro b o hb; rw [hW]; exact st6_other _ _ _ _ _ _ _ _ _ _ _ hb
  have hf : ∀ q, W'.frozen? q = W.frozen? q := by intro q; rw [hW]; exact st6_frozen _ _ _ _ _ _ _ _ _ _
  have hsz : W'.heap.size = W.heap.size := by rw [hW]; exact st6_size _ _ _ _ _ _ _ _ _
  rcases M with ⟨_, h⟩ | ⟨m', h, h1, h2, h3⟩
  · cases h
  · injection h with h; injection h with h; subst h
    have hx : ExAt W' m (k * 6) (G x.kids[k]) ao' cap' := by
      rw [hW]; exact st6_at W m (k * 6) _ ao' cap' (fun j hj => (h3 _ (by omega)).1)
    have hg := R.pg
    have hbl : Below w.heap.size w W' := by rw [hW]; exact st6_below _ _ _ _ _ _ _ _ _ _ _ R.bl (by omega)
    obtain ⟨ul, u0, u1, u2, u3, u4, u5, uf⟩ := R.z
    refine ⟨⟨(hc _ _ (.inl (by omega))).trans R.k5, ⟨by omega, (hc _ _ (.inl (by omega))).trans u0, (hc _ _ (.inl (by omega))).trans u1, (hc _ _ (.inl (by omega))).trans u2, (hc _ _ (.inl (by omega))).trans u3, (hc _ _ (.inl (by omega))).trans u4, (hc _ _ (.inl (by omega))).trans u5, fun o => (hf _).trans (uf o)⟩, (hc _ _ (.inl (by omega))).trans R.p0, (hc _ _ (.inl (by omega))).trans R.p1, (hc _ _ (.inl (by omega))).trans R.p2, (hc _ _ (.inl (by omega))).trans R.p3, (hc _ _ (.inl (by omega))).trans R.p4, (hc _ _ (.inl (by omega))).trans R.p5, (hf _).trans R.pf, by have := R.pl; omega, hg, hbl⟩, .inr ⟨m, rfl, h1, by omega, fun j hj => ⟨?_, (hf _).trans (h3 j hj).2⟩⟩, ?_⟩
    · by_cases hj2 : j < k * 6 ∨ k * 6 + 6 ≤ j
      · obtain ⟨v, hv⟩ := (h3 j hj).1
        exact ⟨v, (hc _ _ (.inr hj2)).trans hv⟩
      · have : j = k * 6 ∨ j = k * 6 + 1 ∨ j = k * 6 + 2 ∨ j = k * 6 + 3 ∨ j = k * 6 + 4 ∨ j = k * 6 + 5 := by omega
        rcases this with rfl | rfl | rfl | rfl | rfl | rfl
        · exact ⟨_, hx.c0⟩
        · exact ⟨_, hx.c1⟩
        · exact ⟨_, hx.c2⟩
        · exact ⟨_, hx.c3⟩
        · exact ⟨_, hx.c4⟩
        · exact ⟨_, hx.c5⟩
    · intro i hi hik
      have hkr : ∀ {ks : List Ex} {ao : Option Addr}, KR W (fun b => m < b ∧ b < W.heap.size) e ks ao → KR W' (fun b => m < b ∧ b < W'.heap.size) e ks ao := fun h => h.keep (fun b o hb => hc b o (.inl (by omega))) (fun b hb => ⟨hb.1, by omega⟩)
      by_cases hl : i < k
      · obtain ⟨m', a, c, g1, g2, g3, g4⟩ := O i hi hl
        injection g1 with g1; injection g1 with g1; subst g1
        exact ⟨m, a, c, rfl, ⟨(hc _ _ (.inr (by omega))).trans g2.c0, (hc _ _ (.inr (by omega))).trans g2.c1, (hc _ _ (.inr (by omega))).trans g2.c2, (hc _ _ (.inr (by omega))).trans g2.c3, (hc _ _ (.inr (by omega))).trans g2.c4, (hc _ _ (.inr (by omega))).trans g2.c5⟩, g3, hkr g4⟩
      · have : i = k := by omega
        subst this
        exact ⟨m, ao', cap', rfl, hx, E, hkr K⟩

theorem kr_end (G : Ex → Ex) (w wr w2 : World) (d p : Nat) (x : Ex) (am ao2 : Option Addr) (hp : w.heap.size + 2 ≤ p) {W' : World} (hs : W'.heap.size = w2.heap.size) (hc : ∀ b o, b ≠ w.heap.size + 1 → W'.cell? ⟨b, o, none⟩ = w2.cell? ⟨b, o, none⟩) (h : KR wr (fun b => p < b ∧ b < wr.heap.size) d (x.kids.map G) am) (hb : Below wr.heap.size wr w2)
    (h2 : (G x).kids = [] ∨ G x = ⟨x.kind, x.name, x.so, x.n, x.s, x.kids.map G⟩ ∧ ao2 = am) : KR W' (fun b => w.heap.size ≤ b ∧ b < W'.heap.size) d (G x).kids ao2 := by
  rcases h2 with h2 | ⟨h2, rfl⟩
  · exact KR.of_nil h2
  · rw [h2]
    have := hb.size
    exact h.keep (fun b o hq => (hc b o (by omega)).trans (hb.cell (p := ⟨b, o, none⟩) hq.2)) (fun b hq => ⟨by omega, by omega⟩)
set_option maxHeartbeats 2000000 in
theorem rebuilt_step (G : Ex → Ex) (bn bv : Nat) (nm : ByteArray) (v : Vl) (hv : VBd v) (hG : ∀ x, G x = putN nm v (ptG G x)) (d : Nat) (ih : ∀ d', d' < d → RSaid G bn bv nm v d') : RSaid G bn bv nm v d := by
  have HG : Hid (∀ x, G x = putN nm v (ptG G x)) := hG
  clear hG
  have hK : ∀ w w', PV bn bv nm v w → Below w.heap.size w w' → PV bn bv nm v w' := fun _ _ h hb => h.keep hb
  intro x ao cap B w hwf hbd hka hB hT
  obtain ⟨hs1, hs2⟩ := wf_small x hwf
  have hkn : x.kids.length ≤ 2 := kids_two x hwf
  have cC := fun W => clone_any x.name W hs1
  have cD := fun W => copied_any ⟨x.so, x.n, x.s⟩ W hs2
  have HF := FW.new w x ao cap
  simp only [exVal, vlV, fwW] at HF cD ⊢
  go_enter Tryz.func31, Tryz.ntmps31
  go_wp2_with fail
  obtain ⟨y0, y1, y2, y3, y4, y5, _, hbl⟩ := id HF
  have hV : w.heap.size + 1 < ((w.alloc (.cells #[.int .i64 x.kind, .string x.name, .int .i64 x.so, .int .i64 x.n, .string x.s, .slice ao x.kids.length cap] 26)).alloc (.cells #[.int .i64 0, .string ⟨#[]⟩, .int .i64 0, .int .i64 0, .string ⟨#[]⟩, .slice none 0 0] 26)).heap.size := by simp
  generalize (w.alloc (.cells #[.int .i64 x.kind, .string x.name, .int .i64 x.so, .int .i64 x.n, .string x.s, .slice ao x.kids.length cap] 26)).alloc (.cells #[.int .i64 0, .string ⟨#[]⟩, .int .i64 0, .int .i64 0, .string ⟨#[]⟩, .slice none 0 0] 26) = V at *
  go_cut [5] (fun s5 wc => ∃ p, s5 = .pointer (some ⟨p, 0, none⟩) ∧ RB w x ao cap p (.slice none 0 0) wc)
  case first =>
    have v1 : ¬ V.heap.size = w.heap.size := by omega
    have v2 : ¬ w.heap.size = V.heap.size := by omega
    have hVd : Below V.heap.size V V.drew := (Below.refl _ _).drew
    have HA : FW w x ao cap V.drew := HF.keep hVd
    have HB : FW w x ao cap (V.drew.alloc (.cells #[.int .i64 0, .string ⟨#[]⟩, .int .i64 0, .int .i64 0, .string ⟨#[]⟩, .slice none 0 0] 26)) := HA.keep ((Below.refl _ _).alloc (Nat.le_refl _) _)
    have ZB1 : ZE (V.drew.alloc (.cells #[.int .i64 0, .string ⟨#[]⟩, .int .i64 0, .int .i64 0, .string ⟨#[]⟩, .slice none 0 0] 26)) V.heap.size := ZE.new V.drew _
    go_region_held3 (fun w' => w'.cell? ⟨w.heap.size, 0, none⟩ = some (.int .i64 x.kind) ∧ w'.cell? ⟨w.heap.size, 1, none⟩ = some (.string x.name) ∧ w'.cell? ⟨w.heap.size, 2, none⟩ = some (.int .i64 x.so) ∧ w'.cell? ⟨w.heap.size, 3, none⟩ = some (.int .i64 x.n) ∧ w'.cell? ⟨w.heap.size, 4, none⟩ = some (.string x.s)) (go_keep) (first
      | (go_at_call 64; go_must (first
          | (refine (cC _).mono ?_; rintro e w1 ⟨rfl, hb1⟩; have F1 := HA.keep hb1; obtain ⟨f0, f1, f2, f3, f4, _, _, _⟩ := id F1; have nl := F1.z.lt; have n1 : ¬ w1.heap.size = w.heap.size := (by omega); have n2 : ¬ w.heap.size = w1.heap.size := (by omega); have F2 : FW w x ao cap (w1.alloc (.cells #[.int .i64 0, .string ⟨#[]⟩, .int .i64 0, .int .i64 0, .string ⟨#[]⟩, .slice none 0 0] 26)) := F1.keep ((Below.refl _ _).alloc (Nat.le_refl _) _); have Z1 := ZE.new w1 26)
          | (refine (cC _).mono ?_; rintro e w1 ⟨rfl, hb1⟩; have F1 := HB.keep hb1; obtain ⟨f0, f1, f2, f3, f4, _, _, _⟩ := id F1; have nl := F1.z.lt; have n1 : ¬ w1.heap.size = w.heap.size := (by omega); have n2 : ¬ w.heap.size = w1.heap.size := (by omega); have Z1 := ZB1.keep hb1)))
      | (go_at_call 30; go_must (first
          | (refine (cD _).mono ?_; rintro e w2 ⟨rfl, hb2⟩; have F3 := F2.keep hb2; have Z3 := Z1.keep hb2; obtain ⟨g0, g1, g2, g3, g4, _, _, _⟩ := id F3; have ml := F3.z.lt; have m1 : ¬ w2.heap.size = w.heap.size := (by omega); have m2 : ¬ w.heap.size = w2.heap.size := (by omega); obtain ⟨zl, z0, z1, z2, z3, z4, z5, zf⟩ := id Z3; have zf0 := zf 0; have zf1 := zf 1; have zf2 := zf 2; have zf3 := zf 3; have zf4 := zf 4; have zf5 := zf 5; clear zf)
          | (refine (cD _).mono ?_; rintro e w2 ⟨rfl, hb2⟩; have F3 := F1.keep hb2; have Z3 := Z1.keep hb2; obtain ⟨g0, g1, g2, g3, g4, _, _, _⟩ := id F3; have ml := F3.z.lt; have m1 : ¬ w2.heap.size = w.heap.size := (by omega); have m2 : ¬ w.heap.size = w2.heap.size := (by omega); obtain ⟨zl, z0, z1, z2, z3, z4, z5, zf⟩ := id Z3; have zf0 := zf 0; have zf1 := zf 1; have zf2 := zf 2; have zf3 := zf 3; have zf4 := zf 4; have zf5 := zf 5; clear zf)
          | (refine (cD _).mono ?_; rintro e w2 ⟨rfl, hb2⟩; have F3 := F1.keep hb2; have Z3 := ZE.new w2 26; obtain ⟨g0, g1, g2, g3, g4, _, _, _⟩ := id F3; have ml := F3.z.lt; have m1 : ¬ w2.heap.size = w.heap.size := (by omega); have m2 : ¬ w.heap.size = w2.heap.size := (by omega)))))
    all_goals go_wp2_with fail
    · go_meet
      case rel => exact ⟨_, rfl, RB.made1 F3⟩
    · go_meet
      case rel => exact ⟨_, rfl, RB.made2 F3 Z3 (by omega)⟩
    · go_meet
      case rel => exact ⟨_, rfl, RB.made2 F3 Z3 (by omega)⟩
  case rest =>
    obtain ⟨p, rfl, R⟩ := hcut
    obtain ⟨Z, hZ, hmk⟩ := makeE x.kids.length (by omega)
    clear HF y0 y1 y2 y3 y4 y5 hbl hV cC cD
    have k5 := R.k5
    have p5 := R.p5
    have pf := R.pf
    have hpl := R.pl
    have hpg := R.pg
    have hzl := R.z.lt
    have hnz : (x.kids.length : Int) ≤ 2 := by omega
    have n1 : ¬ p = w.heap.size := by omega
    have n2 : ¬ w.heap.size = p := by omega
    go_upto_if 20 with fail
    go_cut [] (fun wx => ∃ am, RB w x ao cap p (.slice am x.kids.length x.kids.length) wx ∧ MK wx p x.kids.length am)
    case first =>
      by_cases h0 : 0 < x.kids.length
      · have h0z : (0 : Int) < (x.kids.length : Int) := by omega
        go_wp2_with fail
        go_meet
        case rel => exact made_kids R _ Z hZ
      · have h0z : ¬ (0 : Int) < (x.kids.length : Int) := by omega
        go_wp2_with fail
        go_meet
        case rel =>
          have h00 : x.kids.length = 0 := by omega
          rw [h00]
          exact ⟨none, R, .inl ⟨rfl, rfl⟩⟩
    case rest =>
      obtain ⟨am, R2, M2⟩ := hcut
      clear R k5 p5 pf hzl hmk hZ
      have k5 := R2.k5
      go_wp2_with fail
      go_loopw [29] (fun i wr => ∃ k : Nat, k ≤ x.kids.length ∧ i = .int .i64 (k : Int) ∧ RB w x ao cap p (.slice am x.kids.length x.kids.length) wr ∧ MK wr p x.kids.length am ∧ RO G wr (d - 1) x.kids k am) (fun i _ => x.kids.length - (intOf i).toNat)
      case atStart => exact ⟨0, Nat.zero_le _, rfl, R2, M2, fun i _ h => absurd h (Nat.not_lt_zero i)⟩
      case round =>
        obtain ⟨k, hk, rfl, RR, MM, OO⟩ := hrel
        clear R2 M2 k5
        by_cases hlt : k < x.kids.length
        · have hltz : (k : Int) < (x.kids.length : Int) := by omega
          obtain ⟨d', rfl⟩ : ∃ d', d = d' + 1 := by
            cases d with
            | zero => simp only [KA] at hka; rw [hka] at hlt; simp at hlt
            | succ d' => exact ⟨d', rfl⟩
          rcases hka with e | ⟨b, o, rfl, hbB, hc⟩
          · rw [e] at hlt; simp at hlt
          · obtain ⟨ao', cap', hex, hxb, hkk⟩ := hc k hlt
            rcases id MM with ⟨h0, _⟩ | ⟨m, rfl, hpm, hml, hcm⟩
            · omega
            · have hbr := RR.bl
              obtain ⟨y0, y1, y2, y3, y4, y5⟩ := hex.keep (hbr.mono hB) hbB
              have hwk : wfX x.kids[k] := ((wfX_eq x).1 hwf).2.2 _ (List.getElem_mem hlt)
              have hVK : Below wr.heap.size wr (wr.alloc (.cells #[.int .i64 x.kids[k].kind, .string x.kids[k].name, .int .i64 x.kids[k].so, .int .i64 x.kids[k].n, .string x.kids[k].s, .slice ao' x.kids[k].kids.length cap'] 26)) := (Below.refl _ _).alloc (Nat.le_refl _) _
              have hVs : (wr.alloc (.cells #[.int .i64 x.kids[k].kind, .string x.kids[k].name, .int .i64 x.kids[k].so, .int .i64 x.kids[k].n, .string x.kids[k].s, .slice ao' x.kids[k].kids.length cap'] 26)).heap.size = wr.heap.size + 1 := by simp
              have hwV := hbr.trans (hVK.mono hbr.size)
              have cR := ih d' (by omega) x.kids[k] ao' cap' B (wr.alloc (.cells #[.int .i64 x.kids[k].kind, .string x.kids[k].name, .int .i64 x.kids[k].so, .int .i64 x.kids[k].n, .string x.kids[k].s, .slice ao' x.kids[k].kids.length cap'] 26)).drew hwk hxb ((hkk.keep (hwV.mono hB)).keep (Below.refl _ _).drew) (by show B ≤ (wr.alloc (.cells #[.int .i64 x.kids[k].kind, .string x.kids[k].name, .int .i64 x.kids[k].so, .int .i64 x.kids[k].n, .string x.kids[k].s, .slice ao' x.kids[k].kids.length cap'] 26)).heap.size; have := hwV.size; omega) (hK _ _ (hK _ _ hT hwV) (Below.refl _ _).drew)
              simp only [exVal] at cR
              have q0 : (wr.alloc (.cells #[.int .i64 x.kids[k].kind, .string x.kids[k].name, .int .i64 x.kids[k].so, .int .i64 x.kids[k].n, .string x.kids[k].s, .slice ao' x.kids[k].kids.length cap'] 26)).cell? ⟨wr.heap.size, 0, none⟩ = some (.int .i64 x.kids[k].kind) := by go_cell
              have q1 : (wr.alloc (.cells #[.int .i64 x.kids[k].kind, .string x.kids[k].name, .int .i64 x.kids[k].so, .int .i64 x.kids[k].n, .string x.kids[k].s, .slice ao' x.kids[k].kids.length cap'] 26)).cell? ⟨wr.heap.size, 1, none⟩ = some (.string x.kids[k].name) := by go_cell
              have q2 : (wr.alloc (.cells #[.int .i64 x.kids[k].kind, .string x.kids[k].name, .int .i64 x.kids[k].so, .int .i64 x.kids[k].n, .string x.kids[k].s, .slice ao' x.kids[k].kids.length cap'] 26)).cell? ⟨wr.heap.size, 2, none⟩ = some (.int .i64 x.kids[k].so) := by go_cell
              have q3 : (wr.alloc (.cells #[.int .i64 x.kids[k].kind, .string x.kids[k].name, .int .i64 x.kids[k].so, .int .i64 x.kids[k].n, .string x.kids[k].s, .slice ao' x.kids[k].kids.length cap'] 26)).cell? ⟨wr.heap.size, 3, none⟩ = some (.int .i64 x.kids[k].n) := by go_cell
              have q4 : (wr.alloc (.cells #[.int .i64 x.kids[k].kind, .string x.kids[k].name, .int .i64 x.kids[k].so, .int .i64 x.kids[k].n, .string x.kids[k].s, .slice ao' x.kids[k].kids.length cap'] 26)).cell? ⟨wr.heap.size, 4, none⟩ = some (.string x.kids[k].s) := by go_cell
              have q5 : (wr.alloc (.cells #[.int .i64 x.kids[k].kind, .string x.kids[k].name, .int .i64 x.kids[k].so, .int .i64 x.kids[k].n, .string x.kids[k].s, .slice ao' x.kids[k].kids.length cap'] 26)).cell? ⟨wr.heap.size, 5, none⟩ = some (.slice ao' x.kids[k].kids.length cap') := by go_cell
              have hRp := RR.pl
              have p5 := (hVK.cell (p := ⟨p, 5, none⟩) hRp).trans RR.p5
              obtain ⟨⟨v0, c0⟩, f0⟩ := hcm (k * 6) (by omega)
              replace c0 := (hVK.cell (p := ⟨m, k * 6, none⟩) hml).trans c0
              replace f0 := (hVK.frozen (p := ⟨m, k * 6, none⟩) hml).trans f0
              obtain ⟨⟨v1, c1⟩, f1⟩ := hcm (k * 6 + 1) (by omega)
              replace c1 := (hVK.cell (p := ⟨m, k * 6 + 1, none⟩) hml).trans c1
              replace f1 := (hVK.frozen (p := ⟨m, k * 6 + 1, none⟩) hml).trans f1
              obtain ⟨⟨v2, c2⟩, f2⟩ := hcm (k * 6 + 2) (by omega)
              replace c2 := (hVK.cell (p := ⟨m, k * 6 + 2, none⟩) hml).trans c2
              replace f2 := (hVK.frozen (p := ⟨m, k * 6 + 2, none⟩) hml).trans f2
              obtain ⟨⟨v3, c3⟩, f3⟩ := hcm (k * 6 + 3) (by omega)
              replace c3 := (hVK.cell (p := ⟨m, k * 6 + 3, none⟩) hml).trans c3
              replace f3 := (hVK.frozen (p := ⟨m, k * 6 + 3, none⟩) hml).trans f3
              obtain ⟨⟨v4, c4⟩, f4⟩ := hcm (k * 6 + 4) (by omega)
              replace c4 := (hVK.cell (p := ⟨m, k * 6 + 4, none⟩) hml).trans c4
              replace f4 := (hVK.frozen (p := ⟨m, k * 6 + 4, none⟩) hml).trans f4
              obtain ⟨⟨v5, c5⟩, f5⟩ := hcm (k * 6 + 5) (by omega)
              replace c5 := (hVK.cell (p := ⟨m, k * 6 + 5, none⟩) hml).trans c5
              replace f5 := (hVK.frozen (p := ⟨m, k * 6 + 5, none⟩) hml).trans f5
              have HR : Hid (RB w x (some ⟨b, o, none⟩) cap p (.slice (some ⟨m, 0, none⟩) x.kids.length x.kids.length) wr) := RR
              have HM : Hid (MK wr p x.kids.length (some ⟨m, 0, none⟩)) := MM
              have HO : Hid (RO G wr (d' + 1 - 1) x.kids k (some ⟨m, 0, none⟩)) := OO
              clear RR MM OO hcm hex hkk hc ih hwk hwV hbr
              go_wp2_with fail
              clear y0 y1 y2 y3 y4 y5
              generalize (wr.alloc (.cells #[.int .i64 x.kids[k].kind, .string x.kids[k].name, .int .i64 x.kids[k].so, .int .i64 x.kids[k].n, .string x.kids[k].s, .slice ao' x.kids[k].kids.length cap'] 26)) = VK at *
              have hql : wr.heap.size < VK.drew.heap.size := by show wr.heap.size < VK.heap.size; omega
              have hmv : m < VK.drew.heap.size := by show m < VK.heap.size; omega
              have hpv : p < VK.drew.heap.size := by show p < VK.heap.size; omega
              have a1 : ¬ m = wr.heap.size := by omega
              have a2 : ¬ wr.heap.size = m := by omega
              have a3 : ¬ m = p := by omega
              have a4 : ¬ p = m := by omega
              go_region_held3 (fun w' => w'.cell? ⟨wr.heap.size, 0, none⟩ = some (.int .i64 x.kids[k].kind) ∧ w'.cell? ⟨wr.heap.size, 1, none⟩ = some (.string x.kids[k].name) ∧ w'.cell? ⟨wr.heap.size, 2, none⟩ = some (.int .i64 x.kids[k].so) ∧ w'.cell? ⟨wr.heap.size, 3, none⟩ = some (.int .i64 x.kids[k].n) ∧ w'.cell? ⟨wr.heap.size, 4, none⟩ = some (.string x.kids[k].s) ∧ w'.cell? ⟨wr.heap.size, 5, none⟩ = some (.slice ao' x.kids[k].kids.length cap') ∧ w'.cell? ⟨p, 5, none⟩ = some (.slice (some ⟨m, 0, none⟩) x.kids.length x.kids.length)) (go_keep) (first
                | (go_at_call 31; go_must (refine cR.mono ?_; rintro e w2 ⟨⟨ao2, cap2, rfl, hk2, hbd2⟩, hb2⟩; have q0' := (hb2.cell (p := ⟨wr.heap.size, 0, none⟩) hql).trans q0; have q1' := (hb2.cell (p := ⟨wr.heap.size, 1, none⟩) hql).trans q1; have q2' := (hb2.cell (p := ⟨wr.heap.size, 2, none⟩) hql).trans q2; have q3' := (hb2.cell (p := ⟨wr.heap.size, 3, none⟩) hql).trans q3; have q4' := (hb2.cell (p := ⟨wr.heap.size, 4, none⟩) hql).trans q4; have q5' := (hb2.cell (p := ⟨wr.heap.size, 5, none⟩) hql).trans q5; have p5' := (hb2.cell (p := ⟨p, 5, none⟩) hpv).trans p5; have c0' := (hb2.cell (p := ⟨m, k * 6, none⟩) hmv).trans c0; have f0' := (hb2.frozen (p := ⟨m, k * 6, none⟩) hmv).trans f0; have c1' := (hb2.cell (p := ⟨m, k * 6 + 1, none⟩) hmv).trans c1; have f1' := (hb2.frozen (p := ⟨m, k * 6 + 1, none⟩) hmv).trans f1; have c2' := (hb2.cell (p := ⟨m, k * 6 + 2, none⟩) hmv).trans c2; have f2' := (hb2.frozen (p := ⟨m, k * 6 + 2, none⟩) hmv).trans f2; have c3' := (hb2.cell (p := ⟨m, k * 6 + 3, none⟩) hmv).trans c3; have f3' := (hb2.frozen (p := ⟨m, k * 6 + 3, none⟩) hmv).trans f3; have c4' := (hb2.cell (p := ⟨m, k * 6 + 4, none⟩) hmv).trans c4; have f4' := (hb2.frozen (p := ⟨m, k * 6 + 4, none⟩) hmv).trans f4; have c5' := (hb2.cell (p := ⟨m, k * 6 + 5, none⟩) hmv).trans c5; have f5' := (hb2.frozen (p := ⟨m, k * 6 + 5, none⟩) hmv).trans f5)))
              all_goals
                have hB2 : Below wr.heap.size wr w2 := (hVK.trans ((Below.refl _ _).drew (B := wr.heap.size))).trans (hb2.mono (by show wr.heap.size ≤ VK.heap.size; omega))
                have R2 := HR.out.keep hB2
                have M2 := HM.out.keep hB2
                have O2 := HO.out.keep (by intro m' e; injection e with e; injection e with e; omega) hB2
                have K2 : KR w2 (fun b => m < b ∧ b < w2.heap.size) (d' + 1 - 1) (G x.kids[k]).kids ao2 := hk2.keep (fun _ _ _ => rfl) (fun b hb => ⟨Nat.lt_of_lt_of_le hmv hb.1, hb.2⟩)
                have HEND := round_end hlt R2 M2 O2 hbd2 K2 _ rfl
                go_wp2_with fail
                go_roundw
                case rel => exact ⟨k + 1, by omega, by go_num, HEND.1, HEND.2.1, HEND.2.2⟩
                case measure => simp [intOf]; omega
        · have hltz : ¬ (k : Int) < (x.kids.length : Int) := by omega
          have hkl : k = x.kids.length := by omega
          subst hkl
          have hkr := ro_ka G _ p d x.kids am MM OO (by
            cases d with
            | zero => exact .inl hka
            | succ d => exact .inr (Nat.succ_pos _))
          have hbdp : ExBd (ptG G x) x.kids.length := ⟨hbd.name, hbd.s, hbd.n0, hbd.n1, by simp [ptG], by omega⟩
          have cF := put1_any bn bv nm v (ptG G x) am x.kids.length wr hbdp (hK _ _ hT RR.bl) hv
          rw [← HG.out] at cF
          obtain ⟨k5, hz, p0, p1, p2, p3, p4, p5, pf, hpl', _, hbl⟩ := id RR
          have HR : Hid (RB w x ao cap p (.slice am x.kids.length x.kids.length) wr) := RR
          have HK : Hid (KR wr (fun b => p < b ∧ b < wr.heap.size) d (x.kids.map G) am) := hkr
          have HN : Hid (x.kids.length = x.kids.length) := rfl
          clear RR MM OO hkr hbdp hka ih hbd hwf
          simp only [exVal, ptG, List.length_map] at cF
          go_wp2_with fail
          refine cF.mono ?_
          rintro e w2 ⟨⟨ao2, cap2, rfl, hk2, hbd2⟩, hb2⟩
          simp only [exVal]
          obtain ⟨_, hz2, _, _, _, _, _, _, _, _, _, hbl2⟩ := HR.out.keep hb2
          obtain ⟨zl, z0, z1, z2, z3, z4, z5, zf⟩ := hz2
          have zf0 := zf 0
          have zf1 := zf 1
          have zf2 := zf 2
          have zf3 := zf 3
          have zf4 := zf 4
          have zf5 := zf 5
          clear zf cF k5 p0 p1 p2 p3 p4 p5 pf hz
          go_wp2_with fail
          change bodyPost Tryz.prog Tryz.f31 _ _ _ _
          refine bodyPost_ret (v := exVal (G x) ao2 cap2) (by simp [exVal, results, Tryz.results31, go_sem, z0, z1, z2, z3, z4, z5]) rfl ?_
          refine ⟨⟨ao2, cap2, rfl, ?_, hbd2⟩, by go_grown⟩
          exact kr_end G w wr w2 d p x am ao2 hpg (st6_size _ _ _ _ _ _ _ _ _) (fun b o h => st6_other w2 (w.heap.size + 1) 0 _ _ _ _ _ _ b o (.inl h)) HK.out hb2 hk2

theorem rebuilt_any (bn bv : Nat) (nm : ByteArray) (v : Vl) (hv : VBd v) (d : Nat) : RSaid (putX nm v) bn bv nm v d := by
  induction d using Nat.strongRecOn with
  | _ d ih => exact rebuilt_step (putX nm v) bn bv nm v hv (fun x => putX_eq nm v x) d ih
end PutR
end Go.Proofs.YtecapnipkngniaaGreatDoor
