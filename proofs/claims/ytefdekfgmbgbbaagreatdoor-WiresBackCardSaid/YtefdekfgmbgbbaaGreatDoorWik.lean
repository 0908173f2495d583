/-
  The contract of (*wires.reader).events.
-/
import Derived.Test.YtefdekfgmbgbbaaGreatDoorWij
import Derived.Test.YtefdekfgmbgbbaaGreatDoorKv
import Derived.Deep.LoopGhost
namespace Go.Proofs.YtefdekfgmbgbbaaGreatDoor
open Go.RowKit Go.Shelf

/-- an event, and where its type's lists lie -/
abbrev EvA := Ev × Option Addr × Nat × Option Addr × Nat
def evC (e : EvA) : List Value := evL e.1 e.2.1 e.2.2.1 e.2.2.2.1 e.2.2.2.2
def evsC (es : List EvA) : List Value := es.flatMap evC
theorem evsC_len (es : List EvA) : (evsC es).length = es.length * 10 := by
  induction es with
  | nil => rfl
  | cons e es ih => unfold evsC at ih ⊢; rw [List.flatMap_cons, List.length_append, ih]; simp [evC]; omega
theorem evsC_app (es : List EvA) (e : EvA) : evsC (es ++ [e]) = evsC es ++ evC e := by unfold evsC; simp
theorem evC_one (e : EvA) : ∀ v ∈ evC e, v.oneCell' = true := evL_one _ _ _ _ _
/-- new since w, and not in the row's own block -/
def NX (w W : World) (g : Option Nat) (b : Nat) : Prop := w.heap.size ≤ b ∧ b < W.heap.size ∧ g ≠ some b
structure EvN (w W : World) (g : Option Nat) (e : EvA) : Prop where
  bd : TyBd e.1.carry e.2.2.1 e.2.2.2.2
  la : LQ W (NX w W g) e.1.carry.labels e.2.1
  ka : KQ W (NX w W g) 2001 e.1.carry.kids e.2.2.2.1
theorem EvN.keep {w W W' : World} {g : Option Nat} {e : EvA} {rb : Nat} (h : EvN w W g e) (hf : FR rb W W') (hr : rb < w.heap.size) : EvN w W' g e :=
  ⟨h.bd, h.la.keep (fun b o hb => hf.cellO hb.2.1 (by have := hb.1; omega)) (fun b hb => ⟨hb.1, Nat.lt_of_lt_of_le hb.2.1 hf.size, hb.2.2⟩), h.ka.keep (fun b o hb => hf.cellO hb.2.1 (by have := hb.1; omega)) (fun b hb => ⟨hb.1, Nat.lt_of_lt_of_le hb.2.1 hf.size, hb.2.2⟩)⟩
theorem EvN.grown {w W W' : World} {g g' : Option Nat} {e : EvA} (h : EvN w W g e) (hg : W.grownBy W' g) (hn : g' = g ∨ g' = some W.heap.size) : EvN w W' g' e := by
  have hc : ∀ b o, NX w W g b → W'.cell? ⟨b, o, none⟩ = W.cell? ⟨b, o, none⟩ := fun b o hb => World.cell?_of_block (a := ⟨b, o, none⟩) (hg.block b hb.2.1 (fun e => hb.2.2 e.symm))
  have hq : ∀ b, NX w W g b → NX w W' g' b := fun b hb => ⟨hb.1, Nat.lt_of_lt_of_le hb.2.1 hg.size, by
    rcases hn with rfl | rfl
    · exact hb.2.2
    · intro e; injection e with e; have := hb.2.1; omega⟩
  exact ⟨h.bd, h.la.keep hc hq, h.ka.keep hc hq⟩
theorem GT.evN {w w1 W : World} {g : Option Nat} {x : Ev} {al : Option Addr} {cl : Nat} {ak : Option Addr} {ck : Nat} (h : GT w1 W 2001 x.carry al cl ak ck) (hw : w.heap.size ≤ w1.heap.size) (hg : ∀ b, g = some b → b < w1.heap.size) : EvN w W g (x, al, cl, ak, ck) := by
  have hq : ∀ b, NW w1 W b → NX w W g b := fun b hb => ⟨Nat.le_trans hw hb.1, hb.2, fun e => by have := hg b e; have := hb.1; omega⟩
  exact ⟨h.bd, h.la.keep (fun _ _ _ => rfl) hq, h.ka.keep (fun _ _ _ => rfl) hq⟩
theorem FR.grown {rb : Nat} {w W W' : World} {g : Option Nat} (h : FR rb w W) (hg : W.grownBy W' g) (hn : ∀ k, g = some k → w.heap.size ≤ k) : FR rb w W' :=
  ⟨hg.os.trans h.os, hg.tape.trans h.tape, hg.output.trans h.output, Nat.le_trans h.size hg.size, fun k hk hne => (hg.block k (Nat.lt_of_lt_of_le hk h.size) (fun e => by have := hn k e.symm; omega)).trans (h.block k hk hne)⟩
theorem WRd.grown {W W' : World} {rb : Nat} {s : ByteArray} {p : Nat} {g : Option Nat} (h : WRd W rb s p) (hg : W.grownBy W' g) (hn : g ≠ some rb) : WRd W' rb s p :=
  ⟨(World.cell?_of_block (a := ⟨rb, 0, none⟩) (hg.block rb h.lt (fun e => hn e.symm))).trans h.c0, (World.cell?_of_block (a := ⟨rb, 1, none⟩) (hg.block rb h.lt (fun e => hn e.symm))).trans h.c1, (World.frozen?_of_block (a := ⟨rb, 1, none⟩) (hg.block rb h.lt (fun e => hn e.symm))).trans h.fz, h.le, h.sz⟩
theorem infoEv : (Tryz.prog.info? 33).map (fun i => (i.zero, i.size, i.bytes)) = some (some (.agg #[.int .i64 0, .int .i64 0, .int .i64 0, .string ⟨#[]⟩, .int .i64 0, .int .i64 0, .string ⟨#[]⟩, .slice none 0 0, .slice none 0 0, .string ⟨#[]⟩]), 10, 136) := by kernel_rfl
/-- what has been read, and what is left to read -/
def catE (xs : List Ev) : Except (Int × List UInt8) (List Ev) → Except (Int × List UInt8) (List Ev)
  | .error e => .error e
  | .ok ys => .ok (xs ++ ys)
theorem wiL_nil (V : ByteArray → Bool) (k : Nat) : wiL V k [] = .ok [] := by cases k <;> rfl
theorem wiL_zero (V : ByteArray → Bool) (b : UInt8) (r : List UInt8) : wiL V 0 (b :: r) = .error (2, b :: r) := rfl
theorem wiL_bad (V : ByteArray → Bool) (k : Nat) (b : UInt8) (r e : List UInt8) (h : wiE V (b :: r) = .error e) : wiL V (k + 1) (b :: r) = .error (3, e) := by rw [wiL, h]
theorem wiL_good (V : ByteArray → Bool) (k : Nat) (b : UInt8) (r q : List UInt8) (x : Ev) (xs : List Ev) (h : wiE V (b :: r) = .ok (x, q)) : catE xs (wiL V (k + 1) (b :: r)) = catE (xs ++ [x]) (wiL V k q) := by
  rw [wiL, h]
  simp only
  cases wiL V k q with
  | error e => rfl
  | ok ys => simp [catE]
def lenV : Value → Nat
  | .slice _ n _ => n
  | _ => 0
/-- what events that have been read look like -/
def EvsR (w W : World) (xs : List Ev) (av : Option Addr) (cv : Nat) : Prop := ∃ es : List EvA, es.map Prod.fst = xs ∧ W.ownsRow w.heap.size 33 10 (.slice av xs.length cv) xs.length (evsC es) ∧ ∀ e ∈ es, EvN w W (Value.slice av xs.length cv).ownBlock e
def LPost (w : World) (s : ByteArray) (X : Except (Int × List UInt8) (List Ev)) (e : Ending) (w' : World) : Prop :=
  match X with
  | .error (c, r) => e = .panicked (faultE c ((s.size - r.length : Nat) : Int))
  | .ok xs => ∃ av cv, e = .returned (.slice av xs.length cv) ∧ EvsR w w' xs av cv
section
variable {V : ByteArray → Bool} {Tabs : World → Prop} {B0 : Nat}
set_option maxRecDepth 100000 in
set_option maxHeartbeats 8000000 in
theorem events_read (hV : VSaid V Tabs) (hK : ∀ w w', Tabs w → Below B0 w w' → Tabs w') (rb p : Nat) (s : ByteArray) (w : World) (hB : B0 ≤ rb) (hT : Tabs w) (h : WRd w rb s p) :
    Calls Tryz.prog 15 #[.pointer (some ⟨rb, 0, none⟩)] w fun e w' => LPost w s (wiL V 200 (rs s p)) e w' ∧ FR rb w w' := by
  obtain ⟨i0, hi, hz0, hz1, hz2⟩ := info_parts infoEv
  have hrl := h.lt
  have H := hideK h
  have CE := hideK (fun (W : World) (q : Nat) (hf : FR rb w W) (hW : WRd W rb s q) => event_read hV hK rb q s W hB (hK w W hT ((hf.below (Nat.le_of_lt hrl)).mono hB)) hW)
  obtain ⟨X, hX⟩ : ∃ X, X = wiL V 200 (rs s p) := ⟨_, rfl⟩
  rw [← hX]
  clear h
  go_enter Tryz.func15, Tryz.ntmps15
  go_wp2_with fail
  go_loopw [3] (fun v wr => ∃ (es : List EvA) (q : Nat) (av : Option Addr) (cv : Nat), v = .slice av es.length cv ∧ wr.ownsRow w.heap.size 33 10 (.slice av es.length cv) es.length (evsC es) ∧ (∀ e ∈ es, EvN w wr (Value.slice av es.length cv).ownBlock e) ∧ WRd wr rb s q ∧ FR rb w wr ∧ es.length ≤ 200 ∧ X = catE (es.map Prod.fst) (wiL V (200 - es.length) (rs s q))) (fun v _ => 201 - lenV v)
  case atStart => exact ⟨[], p, none, 0, rfl, World.ownsRow_nil _ _ _ _, (fun e he => by cases he), H.out, FR.refl _ _, by simp, by
    rw [hX]
    simp only [List.map_nil, List.length_nil, Nat.sub_zero]
    cases wiL V 200 (rs s p) <;> rfl⟩
  case round =>
    obtain ⟨es, q, av, cv, rfl, hown, hes, hr, hf, hl, hx⟩ := hrel
    have HO := hideK hown
    have HE := hideK hes
    have HR := hideK hr
    have HF := hideK hf
    obtain ⟨d0, d1, gz, hle, hsz⟩ := hr
    have hqs : (q : Int) ≤ 281474976710656 := by omega
    have hss : (s.size : Int) ≤ 281474976710656 := by omega
    clear hown hes hf hX
    by_cases hend : q = s.size
    · have hlt : ¬ (q : Int) < (s.size : Int) := by omega
      rw [(rs_nil hle).2 hend, wiL_nil] at hx
      simp only [catE, List.append_nil] at hx
      have HX := hideK hx
      clear hx hend hle hsz
      go_upto_region 2 with fail
      go_quiet (fail)
      go_wp2_with fail
      go_ret
      refine ⟨?_, HF.out.trans (FR.of (belowN wr _))⟩
      rw [HX.out]
      refine ⟨av, cv, by rw [List.length_map]; rfl, es, rfl, ?_, ?_⟩
      · rw [List.length_map]
        exact HO.out.kept (FR.of (pb := rb) (belowN wr _)) (by right; intro e; have := (HO.out.lt _ e).1; omega)
      · rw [List.length_map]
        exact fun e he => (HE.out e he).keep (FR.of (pb := rb) (belowN wr _)) hrl
    · have hlt : (q : Int) < (s.size : Int) := by omega
      obtain ⟨b, hb, hbr⟩ := rs_cons (show q < s.size by omega)
      by_cases hfull : es.length = 200
      · have hl2 : ((es.length : Int) == 200) = true := by simp; omega
        rw [hbr, hfull, Nat.sub_self, wiL_zero, ← hbr] at hx
        have HX := hideK hx
        have HP := hideK (show ((s.size - (rs s q).length : Nat) : Int) = (q : Int) by rw [rs_len]; omega)
        clear hx hend hle hsz hb hbr hfull
        go_upto_region 2 with fail
        go_quiet (fail)
        go_wp2_with fail
        refine ⟨rfl, ?_, HF.out.trans (FR.of (belowN wr _))⟩
        rw [HX.out]
        show Ending.panicked _ = Ending.panicked _
        rw [HP.out]
        rfl
      · have hl2 : ((es.length : Int) == 200) = false := by simp; omega
        have hl3 : es.length < 200 := by omega
        rw [show 200 - es.length = (199 - es.length) + 1 by omega] at hx
        have hHQ := belowN wr
        cases hN : wiE V (rs s q) with
        | error r' =>
          rw [hbr] at hx hN
          rw [wiL_bad V _ b _ r' hN] at hx
          have HX := hideK hx
          have CE2 := hideK (fun (n : Nat) => CE.out (wr.drewN n) q (HF.out.trans (FR.of (belowN wr n))) (HR.out.keep (belowN wr n)))
          rw [hbr, hN] at CE2
          simp only [WPost] at CE2
          clear hx hend hle hsz hb hbr hfull hN hl3 hHQ
          go_upto_region 2 with fail
          go_quiet (fail)
          go_wp2_with (go_at_call 22; refine (CE2.out _).mono ?_; rintro e w2 ⟨rfl, hf2⟩)
          refine ⟨rfl, ?_, (HF.out.trans (FR.of (belowN wr _))).trans hf2⟩
          rw [HX.out]
          rfl
        | ok y =>
          obtain ⟨x, r'⟩ := y
          rw [hbr] at hN
          rw [hbr, wiL_good V _ b _ r' x _ hN] at hx
          have HX := hideK hx
          have CE2 := hideK (fun (n : Nat) => CE.out (wr.drewN n) q (HF.out.trans (FR.of (belowN wr n))) (HR.out.keep (belowN wr n)))
          rw [hbr, hN] at CE2
          simp only [WPost] at CE2
          clear hx hend hle hsz hb hbr hfull hN hHQ
          go_upto_region 2 with fail
          go_quiet (fail)
          have F1 := hideK (HF.out.trans (FR.of (belowN wr nq)))
          have O1 := hideK (HO.out.kept (FR.of (pb := rb) (belowN wr nq)) (by right; intro e; have := (HO.out.lt _ e).1; omega))
          have N1 := hideK (fun e he => (HE.out e he).keep (FR.of (pb := rb) (belowN wr nq)) hrl)
          replace CE2 := hideK (CE2.out nq)
          have D0 := HR.out.keep (belowN wr nq)
          obtain ⟨d0', d1', gz', _, _⟩ := D0
          clear HO HE HF HR CE d0 d1 gz
          generalize wr.drewN nq = W1 at *
          have hs1 := F1.out.size
          go_wp2_with (first
            | (go_at_call 22; go_must (refine CE2.out.mono ?_; rintro e w2 ⟨⟨v9, rfl, ⟨al, cl, ak, ck, rfl, hg⟩, p2, hr2, hl2q⟩, hf2⟩; have hs2 := hf2.size; have O2 := hideK (O1.out.kept hf2 (by right; intro e; have := (O1.out.lt _ e).1; omega)); have O3 := hideK (O2.out.kept (FR.al (pb := rb) (.cells #[.int .i64 x.kind, .int .i64 x.so, .int .i64 x.n, .string x.s, .int .i64 x.carry.kind, .int .i64 x.carry.so, .string x.carry.name, .slice al x.carry.labels.length cl, .slice ak x.carry.kids.length ck, .string x.label] 33)) (by right; intro e; have := (O2.out.lt _ e).1; omega)); have L3 := hideK (lit_own w2 33 10 1 #[.int .i64 x.kind, .int .i64 x.so, .int .i64 x.n, .string x.s, .int .i64 x.carry.kind, .int .i64 x.carry.so, .string x.carry.name, .slice al x.carry.labels.length cl, .slice ak x.carry.kids.length ck, .string x.label] rfl (by omega)); have N3 := hideK (fun e he => ((N1.out e he).keep hf2 hrl).keep (FR.al (pb := rb) (.cells #[.int .i64 x.kind, .int .i64 x.so, .int .i64 x.n, .string x.s, .int .i64 x.carry.kind, .int .i64 x.carry.so, .string x.carry.name, .slice al x.carry.labels.length cl, .slice ak x.carry.kids.length ck, .string x.label] 33)) hrl); have G3 := hideK ((hg.evN (g := (Value.slice av es.length cv).ownBlock) (by omega) (fun b hb => (O1.out.lt _ hb).2)).keep (FR.al (pb := rb) (.cells #[.int .i64 x.kind, .int .i64 x.so, .int .i64 x.n, .string x.s, .int .i64 x.carry.kind, .int .i64 x.carry.so, .string x.carry.name, .slice al x.carry.labels.length cl, .slice ak x.carry.kids.length ck, .string x.label] 33)) hrl); have W3 := hideK (hr2.keep ((Below.refl _ _).alloc (Nat.le_refl _) (.cells #[.int .i64 x.kind, .int .i64 x.so, .int .i64 x.n, .string x.s, .int .i64 x.carry.kind, .int .i64 x.carry.so, .string x.carry.name, .slice al x.carry.labels.length cl, .slice ak x.carry.kids.length ck, .string x.label] 33))); have F3 := hideK ((F1.out.trans hf2).trans (FR.al (.cells #[.int .i64 x.kind, .int .i64 x.so, .int .i64 x.n, .string x.s, .int .i64 x.carry.kind, .int .i64 x.carry.so, .string x.carry.name, .slice al x.carry.labels.length cl, .slice ak x.carry.kids.length ck, .string x.label] 33))); clear hg hr2 hf2 O1 O2 N1 F1; unfold evVal))
            | (at_builtin; refine wpList_append_rows _ rfl _ _ 22 rfl _ _ 33 i0 (.agg #[.int .i64 0, .int .i64 0, .int .i64 0, .string ⟨#[]⟩, .int .i64 0, .int .i64 0, .string ⟨#[]⟩, .slice none 0 0, .slice none 0 0, .string ⟨#[]⟩]) 10 136 Tryz.underlying22 hi hz0 hz1 hz2 rfl (by decide) _ _ _ rfl O3.out _ _ _ rfl L3.out (evC_one (x, al, cl, ak, ck)) (by unfold maxLen; omega) (by omega) (by simp; omega) ?_; intro v4 w4 hO4 hg4 hn4))
          have HV := hideK (show ∀ k, (Value.slice av es.length cv).ownBlock = some k → w.heap.size ≤ k from fun k hk => (O3.out.lt k hk).1)
          have HM := hideK (show (es ++ [((x, al, cl, ak, ck) : EvA)]).length = es.length + 1 by simp)
          rcases own_cells hO4 with ⟨rfl, h0, _⟩ | ⟨g, cap, rfl, _⟩
          · omega
          refine ⟨⟨es ++ [(x, al, cl, ak, ck)], p2, some ⟨g, 0, none⟩, cap, by rw [HM.out], ?_, ?_, W3.out.grown hg4 (fun e => by have := HV.out rb e; omega), F3.out.grown hg4 HV.out, by rw [HM.out]; omega, ?_⟩, by simp only [lenV]; omega⟩
          · rw [HM.out, evsC_app]; exact hO4
          · rw [HM.out]
            intro e he
            rcases List.mem_append.1 he with he | he
            · exact (N3.out e he).grown hg4 hn4
            · rw [List.mem_singleton] at he
              subst he
              exact G3.out.grown hg4 hn4
          · rw [HX.out, HM.out, List.map_append, hl2q, show 200 - (es.length + 1) = 199 - es.length by omega]
            rfl
end
end Go.Proofs.YtefdekfgmbgbbaaGreatDoor
