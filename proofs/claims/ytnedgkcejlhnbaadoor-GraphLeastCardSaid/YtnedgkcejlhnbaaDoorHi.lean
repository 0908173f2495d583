/-
  The contract of graph.classes.
-/
import Derived.Test.YtnedgkcejlhnbaaDoorHg
import Derived.Test.YtnedgkcejlhnbaaDoorXb
import Derived.Test.YtnedgkcejlhnbaaDoorLib
namespace Go.Proofs.YtnedgkcejlhnbaaDoor
open Go.RowKit Go.Shelf

/-- a graph as graph.Check lets it by -/
structure GR1 (g : List Nd) : Prop where
  pos : 0 < g.length
  le : g.length ≤ 1000
  shp : ∀ n ∈ g, shpN n
  shut : shutG g
theorem split_le {g : List Nd} {c : List Nat} (hl : g.length ≤ 1000) : ∀ x ∈ (splitG g c).2, x ≤ 1000 := by
  intro x hx
  have h := split_inv g c
  obtain ⟨i, hi, rfl⟩ := (h.val x).1 hx
  have h1 := List.idxOf_lt_length_of_mem ((h.mem (keyOfN c g[i])).2 ⟨_, List.getElem_mem hi, rfl⟩)
  have h2 := cnt_le (splitG g c).2
  have h3 := h.len
  have h4 := h.cn
  omega
set_option maxRecDepth 100000 in
set_option maxHeartbeats 2000000 in
theorem classes_any (g : List Nd) (ag : Option Addr) (cg B : Nat) (w : World) (hg : GR1 g) (hga : GAt w B g ag) (hB : B ≤ w.heap.size) :
    Calls Tryd.prog 41 #[.slice ag g.length cg] w fun e w' => (∃ af cl, e = .returned (.slice af g.length g.length) ∧ CLS g cl ∧ NI w' w'.heap.size cl af) ∧ Below w.heap.size w w' := by
  obtain ⟨Z, hZ, hmk⟩ := makeI g.length hg.le
  have hgl : (g.length : Int) ≤ 1000 := by have := hg.le; omega
  have S0 := hideK (show NI (w.alloc (.cells Z 3)) (w.alloc (.cells Z 3)).heap.size (List.replicate g.length 0) (some ⟨w.heap.size, 0, none⟩) from by
    have h0 := FI.zero (w := w) (n := g.length) hZ (Below.refl _ _)
    refine .inr ⟨w.heap.size, 0, rfl, by simp, fun i hi => ?_⟩
    have hi' : i < g.length := by simpa using hi
    rw [Nat.zero_add, h0.cell i hi', if_neg (Nat.not_lt_zero _)]
    simp)
  have B0 := hideK (show Below w.heap.size w (w.alloc (.cells Z 3)) from (Below.refl _ _).alloc (Nat.le_refl _) _)
  have C0 := hideK (cnt_zero g.length hg.pos)
  have P0 := hideK (pat_zero g)
  clear hZ
  go_enter Tryd.func41, Tryd.ntmps41
  go_wp2_with fail
  go_loopw [3, 4] (fun u z wr => ∃ (k : Nat) (c : List Nat) (ac : Option Addr), u = .slice ac g.length g.length ∧ z = .int .i64 ((cnt c : Nat) : Int) ∧ patG g k c ∧ (∀ x ∈ c, x ≤ 1000) ∧ NI wr wr.heap.size c ac ∧ Below w.heap.size w wr) (fun _ z _ => g.length - (intOf z).toNat)
  case atStart => exact ⟨0, List.replicate g.length 0, _, rfl, by rw [C0.out]; rfl, P0.out, fun x hx => by rw [(List.mem_replicate.1 hx).2]; omega, S0.out, B0.out⟩
  case round =>
    obtain ⟨k, c, ac, rfl, rfl, hp, hx, hni, hb⟩ := hrel
    clear S0 B0 C0 P0 hmk
    have hok : GOK g c := ⟨hg.le, fun n hn => ⟨hg.shp n hn, fun t ht => by rw [hp.1]; exact hg.shut n hn t ht⟩, hx⟩
    have cS := split_any g c ag ac cg g.length wr.heap.size wr hok ((hga.keep (hb.mono hB)).mono (Nat.le_trans hB hb.size)) hni (Nat.le_refl _)
    rw [hp.1] at cS
    have HP := hideK hp
    have HB := hideK hb
    have HD := hideK (cls_done hg.shut hp)
    have HM := hideK (cls_more hg.shut hp)
    have HN := hideK (pat_split hg.shut hp)
    have HC := hideK (split_inv g c).cn
    clear hp hb hni hok hx
    by_cases he : (splitG g c).1.length = cnt c
    · have heb : (((splitG g c).1.length : Int) == ((cnt c : Nat) : Int)) = true := by rw [he]; simp
      have HE := hideK he
      clear he
      go_wp2_with fail
      refine cS.mono ?_
      rintro e w2 ⟨⟨af, rfl, hn2⟩, hb2⟩
      go_wp2_with fail
      go_ret
      exact ⟨⟨_, _, rfl, HD.out HE.out, hn2⟩, HB.out.trans (hb2.mono HB.out.size)⟩
    · have heb : (((splitG g c).1.length : Int) == ((cnt c : Nat) : Int)) = false := by simpa using fun h : ((splitG g c).1.length : Int) = ((cnt c : Nat) : Int) => he (by omega)
      have HE := hideK he
      have hmm := HM.out he
      clear he
      go_wp2_with fail
      refine cS.mono ?_
      rintro e w2 ⟨⟨af, rfl, hn2⟩, hb2⟩
      go_wp2_with fail
      go_roundw
      case rel => exact ⟨k + 1, (splitG g c).2, af, rfl, by rw [← HC.out], HN.out, split_le hg.le, hn2, HB.out.trans (hb2.mono HB.out.size)⟩
      case measure => simp [intOf]; omega
end Go.Proofs.YtnedgkcejlhnbaaDoor
/-
  The contract of graph.copied: labels, copied into a row of the call's own.
-/
namespace Go.Proofs.YtnedgkcejlhnbaaDoor
open Go.RowKit Go.Shelf

theorem cloneG_any (s : ByteArray) (w : World) (hs : s.size ≤ 281474976710656) :
    Calls Tryd.prog 40 #[.string s] w fun e w' => e = .returned (.string s) ∧ Below w.heap.size w w' := by
  have c : Calls Tryd.prog 75 #[.string s] w fun e w' => e = .returned (.string s) ∧ Below w.heap.size w w' := Any.stringslite_Clone Tryd.laysM316 s w hs
  go_enter Tryd.func40, Tryd.ntmps40
  go_wp2_with fail
  refine c.mono ?_
  rintro e w1 ⟨rfl, hb⟩
  go_wp2_with fail
  go_ret
  exact ⟨rfl, hb⟩
theorem own_belowG {base : Nat} {e : TypeId} {size : Nat} {v : Value} {n : Nat} {xs : List Value} {w w' : World} (h : w.ownsRow base e size v n xs) (hb : Below w.heap.size w w') : w'.ownsRow base e size v n xs := by
  refine h.kept (below_grown hb (some w.heap.size)) ?_
  cases hq : v.ownBlock with
  | none => exact .inl rfl
  | some g => exact .inr (fun e => by injection e with e; have := (h.lt g hq).2; omega)
theorem own_baseG {w : World} {base : Nat} {e : TypeId} {size : Nat} {u : Value} {m : Nat} {ys : List Value} (h : w.ownsRow base e size u m ys) : ∀ k, u.ownBlock = some k → base ≤ k := fun k hk => (h.lt k hk).1
theorem infoSG : (Tryd.prog.info? 9).map (fun i => (i.zero, i.size, i.bytes)) = some (some (.string ⟨#[]⟩), 1, 16) := by kernel_rfl
theorem lit_rowG (e : TypeId) (base : Nat) (W : World) (v : Value) (H : Nat) (hH : W.heap.size = H) (hb : base ≤ H) : (W.alloc (.cells #[v] e)).ownsRow base e 1 (.slice (some ⟨H, 0, none⟩) 1 1) 1 [v] := by
  subst hH
  exact World.ownsRow_lit W #[v] 1 hb (by decide) rfl
set_option maxRecDepth 100000 in
set_option maxHeartbeats 2000000 in
theorem copiedG_any (ls : List ByteArray) (al : Option Addr) (cl B : Nat) (w : World) (hla : LA w B ls al) (hB : B ≤ w.heap.size) (hl : ls.length ≤ 1000) (hs : ∀ l ∈ ls, l.size ≤ 281474976710656) :
    Calls Tryd.prog 43 #[.slice al ls.length cl] w fun e w' => ∃ u, e = .returned u ∧ w'.ownsRow w.heap.size 9 1 u ls.length (ls.map Value.string) ∧ Below w.heap.size w w' := by
  obtain ⟨i0, hi, hx⟩ := Option.map_eq_some_iff.1 infoSG
  simp only [Prod.mk.injEq] at hx
  obtain ⟨hz0, hz1, hz2⟩ := hx
  have hlz : (ls.length : Int) ≤ 1000 := by omega
  go_enter Tryd.func43, Tryd.ntmps43
  go_wp2_with fail
  go_loopw [3, 8] (fun u i wr => ∃ k : Nat, k ≤ ls.length ∧ i = .int .i64 (k : Int) ∧ wr.ownsRow w.heap.size 9 1 u k ((ls.take k).map Value.string) ∧ Below w.heap.size w wr) (fun _ i _ => ls.length - (intOf i).toNat)
  case atStart => exact ⟨0, Nat.zero_le _, rfl, World.ownsRow_nil _ _ _ _, Below.refl _ _⟩
  case round =>
    obtain ⟨k, hk, rfl, hO, hb⟩ := hrel
    by_cases hlt : k < ls.length
    · have hltz : (k : Int) < (ls.length : Int) := by omega
      obtain ⟨lb, lo, rfl, hlb, hlc⟩ := hla.resolve_left (fun h => by have := congrArg List.length h; simp at this; rw [this] at hlt; simp at hlt)
      have d1 := (hb.cell (p := ⟨lb, lo + k, none⟩) (by show lb < w.heap.size; omega)).trans (hlc k (by simpa using hlt))
      rw [List.getElem_map] at d1
      have cC := fun W : World => cloneG_any ls[k] W (hs _ (List.getElem_mem hlt))
      have HT := hideK (show (ls.take (k + 1)).map Value.string = (ls.take k).map Value.string ++ [.string ls[k]] from by rw [List.take_succ_eq_append_getElem hlt, List.map_append]; rfl)
      have HO := hideK hO
      have HB := hideK hb
      have CC := hideK cC
      clear hO hb hlc cC
      generalize ls[k] = s at *
      go_wp2_with fail
      refine (CC.out _).mono ?_
      rintro e w2 ⟨rfl, hb2⟩
      have B2 := hideK (HB.out.trans (hb2.mono HB.out.size))
      have O2 := hideK (own_belowG HO.out hb2)
      have LR := hideK (lit_rowG 9 w.heap.size w2 (.string s) w2.heap.size rfl B2.out.size)
      have OA := hideK (own_belowG O2.out ((Below.refl _ _).alloc (Nat.le_refl _) (.cells #[.string s] 9)))
      have hsz := B2.out.size
      clear hb2 HO d1
      go_wp2_with (at_builtin; refine wpList_append_rows _ rfl (.tmp 12) (.tmp 15) 26 rfl w.heap.size w.heap.size 9 i0 (.string ⟨#[]⟩) 1 16 Tryd.underlying26 hi hz0 hz1 hz2 rfl (by decide) _ _ _ rfl OA.out _ _ _ rfl LR.out (by simp [Value.oneCell']) (by unfold maxLen; omega) (by omega) (by simp; omega) ?_; intro v7 w7 hO7 hg7 hat7)
      go_roundw
      case rel =>
        refine ⟨k + 1, by omega, by go_num, ?_, ?_⟩
        · rw [HT.out]; exact hO7
        · exact (B2.out.alloc hsz _).grown hg7 (by simp; omega) (own_baseG O2.out)
      case measure => simp [intOf]; omega
    · have hltz : ¬ (k : Int) < (ls.length : Int) := by omega
      have hkl : k = ls.length := by omega
      subst hkl
      rw [List.take_length] at hO
      go_wp2_with fail
      go_ret
      exact ⟨_, rfl, hO, hb⟩
end Go.Proofs.YtnedgkcejlhnbaaDoor
