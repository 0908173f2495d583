/-
  The contract of graph.split.
-/
import Derived.Test.YthhbbhijpkoelaaDoorHf
import Derived.Test.YthhbbhijpkoelaaDoorKc
import Derived.Test.YthhbbhijpkoelaaDoorLid
namespace Go.Proofs.YthhbbhijpkoelaaDoor
open Go.RowKit Go.Shelf

theorem below_grown {w w' : World} (h : Below w.heap.size w w') (row : Option Nat) : w.grownBy w' row := ⟨h.os, h.tape, h.output, h.size, fun k hk _ => h.block k hk⟩
theorem grown_set (W : World) (b o : Nat) (v : Value) : W.grownBy (W.setCell ⟨b, o, none⟩ v) (some b) := ⟨rfl, rfl, rfl, by simp, fun k _ hn => Below.heap_setCell W _ v k (fun e => hn (by rw [e]))⟩
/-- the classes of the first k nodes are written -/
structure FI (W : World) (fb n k : Nat) (c : List Nat) : Prop where
  lt : fb < W.heap.size
  cell : ∀ j, j < n → W.cell? ⟨fb, j, none⟩ = some (.int .i64 ((if j < k then clAt c j else 0 : Nat) : Int))
  fr : ∀ j, W.frozen? ⟨fb, j, none⟩ = false
theorem FI.kept {W W' : World} {fb n k : Nat} {c : List Nat} (h : FI W fb n k c) {row : Option Nat} (hg : W.grownBy W' row) (hne : some fb ≠ row) : FI W' fb n k c :=
  ⟨Nat.lt_of_lt_of_le h.lt hg.size, fun j hj => (World.cell?_of_block (a := ⟨fb, j, none⟩) (hg.block fb h.lt hne)).trans (h.cell j hj), fun j => (World.frozen?_of_block (a := ⟨fb, j, none⟩) (hg.block fb h.lt hne)).trans (h.fr j)⟩
theorem FI.put {W : World} {fb n k : Nat} {c : List Nat} (h : FI W fb n k c) (hk : k < n) (hc : c.length = k) (x : Nat) : FI (W.setCell ⟨fb, k, none⟩ (.int .i64 (x : Int))) fb n (k + 1) (c ++ [x]) := by
  refine ⟨by simpa using h.lt, fun j hj => ?_, fun j => (World.frozen?_setCell _ _ _ _).trans (h.fr j)⟩
  by_cases e : j = k
  · subst e
    rw [World.cell?_setCell_same _ _ _ (h.cell j hj), if_pos (by omega)]
    unfold clAt
    rw [List.getElem?_append_right (by omega), hc, Nat.sub_self]; rfl
  · rw [World.cell?_setCell_other _ _ _ _ (by intro q; injection q with _ q2; exact e q2.symm), h.cell j hj]
    by_cases hjk : j < k
    · rw [if_pos hjk, if_pos (by omega)]
      unfold clAt
      rw [List.getElem?_append_left (by omega)]
    · rw [if_neg hjk, if_neg (by omega)]
theorem FI.zero {w W : World} {Z : Array Value} {n : Nat} (hZ : ∀ j, j < n → Z[j]? = some (.int .i64 0)) (hb : Below (w.alloc (.cells Z 3)).heap.size (w.alloc (.cells Z 3)) W) : FI W w.heap.size n 0 [] := by
  have h0 : FI (w.alloc (.cells Z 3)) w.heap.size n 0 [] := by
    refine ⟨by simp, fun j hj => ?_, fun j => by go_simp⟩
    rw [World.cell?_alloc_new, if_neg (Nat.not_lt_zero _)]
    exact hZ j hj
  exact h0.kept (below_grown hb none) (by simp)
theorem FI.all {W : World} {fb n : Nat} {c : List Nat} (h : FI W fb n n c) (hc : c.length = n) : NI W W.heap.size c (some ⟨fb, 0, none⟩) := by
  refine .inr ⟨fb, 0, rfl, h.lt, fun i hi => ?_⟩
  have hi' : i < n := by rw [← hc]; simpa using hi
  rw [Nat.zero_add, h.cell i hi', if_pos hi', List.getElem_map]
  unfold clAt
  rw [List.getElem?_eq_getElem (by omega)]; rfl
def GOK (g : List Nd) (c : List Nat) : Prop := g.length ≤ 1000 ∧ (∀ n ∈ g, shpN n ∧ ∀ t ∈ n.to, t < c.length) ∧ ∀ x ∈ c, x ≤ 1000
/-- the keys that are known, as values -/
theorem keys_ok {g : List Nd} {c : List Nat} (h : GOK g c) {p : List Nd} (hp : ∀ n ∈ p, n ∈ g) {s : List Key × List Nat} (hs : SInv c p s) : KeysOK (s.1.map kvK) ∧ (s.1.map kvK).Nodup ∧ ∀ n ∈ g, (kvN c n ∈ s.1.map kvK ↔ keyOfN c n ∈ s.1) ∧ (keyOfN c n ∈ s.1 → plOf (s.1.map kvK) (kvN c n) (s.1.idxOf (keyOfN c n))) := by
  have hkey : ∀ d ∈ s.1, ∃ n ∈ g, keyOfN c n = d := fun d hd => by
    obtain ⟨n, hn, e⟩ := (hs.mem d).1 hd
    exact ⟨n, hp n hn, e⟩
  refine ⟨fun d hd => ?_, ?_, fun n hn => ⟨⟨fun hm => ?_, fun hm => List.mem_map.2 ⟨_, hm, kv_key c n⟩⟩, fun hm => ?_⟩⟩
  · obtain ⟨k, hk, rfl⟩ := List.mem_map.1 hd
    obtain ⟨n, hn, rfl⟩ := hkey k hk
    rw [kv_key]
    obtain ⟨_, _, _, _, _, _, _, _, _, _, _, _, _, hl⟩ := kN_cells (c := c) (h.2.1 n hn).1 h.2.2
    exact hl
  · have hin : ∀ a ∈ s.1, ∀ b ∈ s.1, kvK a = kvK b → a = b := fun a ha b hb e => by
      obtain ⟨n, hn, rfl⟩ := hkey a ha
      obtain ⟨m, hm, rfl⟩ := hkey b hb
      rw [kv_key, kv_key] at e
      exact kv_inj (h.2.1 n hn).1 (h.2.1 m hm).1 e
    have := hs.nd
    generalize s.1 = l at *
    clear hs hkey
    induction l with
    | nil => simp
    | cons a l ih =>
      rw [List.nodup_cons] at this
      rw [List.map_cons, List.nodup_cons]
      refine ⟨fun hm => ?_, ih (fun x hx y hy => hin x (.tail _ hx) y (.tail _ hy)) this.2⟩
      obtain ⟨b, hb, e⟩ := List.mem_map.1 hm
      have := hin b (.tail _ hb) a (.head _) e
      subst this
      exact this.1 hb
  · obtain ⟨k, hk, e⟩ := List.mem_map.1 hm
    obtain ⟨m, hm', rfl⟩ := hkey k hk
    rw [kv_key] at e
    rw [← kv_inj (h.2.1 m hm').1 (h.2.1 n hn).1 e]
    exact hk
  · unfold plOf
    rw [List.getElem?_map, List.getElem?_eq_getElem (List.idxOf_lt_length_of_mem hm), List.getElem_idxOf]
    show some (kvK (keyOfN c n)) = _
    rw [kv_key]
set_option maxRecDepth 100000 in
set_option maxHeartbeats 8000000 in
theorem split_any (g : List Nd) (c : List Nat) (ag ac : Option Addr) (cg cc B : Nat) (w : World) (hok : GOK g c) (hga : GAt w B g ag) (hca : NI w B c ac) (hB : B ≤ w.heap.size) :
    Calls Tryd.prog 51 #[.slice ag g.length cg, .slice ac c.length cc] w fun e w' => (∃ af, e = .returned (.tuple #[.slice af g.length g.length, .int .i64 ((splitG g c).1.length : Int)]) ∧ NI w' w'.heap.size (splitG g c).2 af) ∧ Below w.heap.size w w' := by
  obtain ⟨Z, hZ, hmk⟩ := makeI g.length hok.1
  have hgl : (g.length : Int) ≤ 1000 := by have := hok.1; omega
  have HS : ∀ k, k ≤ g.length → SInv c (g.take k) ((g.take k).foldl (splitStep c) ([], [])) := fun k _ => split_inv (g.take k) c
  have S0 := hideK (show FI ((w.alloc (.cells Z 3)).alloc (.map #[] 0)) w.heap.size g.length 0 [] from FI.zero hZ ((Below.refl _ _).alloc (Nat.le_refl _) _))
  have M0 := hideK (show MPa ((w.alloc (.cells Z 3)).alloc (.map #[] 0)) (w.heap.size + 1) [] from by
    have := MPa.new (w.alloc (.cells Z 3))
    rw [World.size_alloc] at this
    exact this)
  have B0 := hideK (show Below w.heap.size w ((w.alloc (.cells Z 3)).alloc (.map #[] 0)) from ((Below.refl _ _).alloc (Nat.le_refl _) _).alloc (by simp) _)
  have HSK := hideK HS
  clear HS hZ
  have hmm : ∀ w : World, (Instr.makeMap 114 none).run Tryd.prog w = .ok (.map (some w.heap.size)) (w.alloc (.map #[] 0)) := fun w => rfl
  go_enter Tryd.func51, Tryd.ntmps51
  go_wp2_with fail
  go_loopw [19] (fun i wr => ∃ k : Nat, k ≤ g.length ∧ i = .int .i64 (k : Int) ∧ FI wr w.heap.size g.length k ((g.take k).foldl (splitStep c) ([], [])).2 ∧ MPa wr (w.heap.size + 1) (((g.take k).foldl (splitStep c) ([], [])).1.map kvK) ∧ Below w.heap.size w wr ∧ w.heap.size + 1 < wr.heap.size) (fun i _ => g.length - (intOf i).toNat)
  case atStart => exact ⟨0, Nat.zero_le _, rfl, S0.out, M0.out, B0.out, by simp⟩
  case round =>
    obtain ⟨k, hk, rfl, hFI, hMP, hbr, hml⟩ := hrel
    clear S0 M0 B0
    have SI := HSK.out k hk
    by_cases hlt : k < g.length
    · have hltz : (k : Int) < (g.length : Int) := by omega
      obtain ⟨gb, go1, rfl, hgb, hgc⟩ := hga.resolve_left (fun h => by rw [h] at hlt; simp at hlt)
      obtain ⟨al, cl, at1, ct, hnd, hla, hta⟩ := hgc k hlt
      have hin : g[k] ∈ g := List.getElem_mem hlt
      obtain ⟨hko, hknd, hkm⟩ := keys_ok hok (fun n hn => List.mem_of_mem_take hn) SI
      obtain ⟨hkm1, hkm2⟩ := hkm g[k] hin
      obtain ⟨s0, s1, s2, s3, s4, s5, m0, m1, m2, m3, m4, m5, hK, kl, hkl⟩ := kN_cells (c := c) (hok.2.1 _ hin).1 hok.2.2
      have hsl := shp_len (hok.2.1 _ hin).1
      have hto := (hok.2.1 _ hin).2
      have hstep : (g.take (k + 1)).foldl (splitStep c) ([], []) = splitStep c ((g.take k).foldl (splitStep c) ([], [])) g[k] := by
        rw [List.take_succ_eq_append_getElem hlt, List.foldl_append]; rfl
      have hlen2 := SI.len
      rw [List.length_take, Nat.min_eq_left hk] at hlen2
      obtain ⟨c0, c1, c2, c3⟩ := hnd.keep hbr (by omega)
      have hbrB : Below B w wr := hbr.mono hB
      have hla' := hla.keep hbrB
      have hta' := hta.keep hbrB
      have hca' := hca.keep hbrB
      have HST := hideK hstep
      unfold kvN at hkm1 hkm2 hkl
      rw [hK] at hkm1 hkm2 hkl
      clear hstep hga hgc hla hta SI hnd hkm
      generalize g[k] = n at *
      generalize (g.take k).foldl (splitStep c) ([], []) = s at *
      have b1 : Below wr.heap.size wr (wr.alloc (.cells #[.int .i64 n.kind, .int .i64 n.so, .slice al n.labs.length cl, .slice at1 n.to.length ct] 60)) := (Below.refl _ _).alloc (Nat.le_refl _) _
      have cD := doingOf_any n al at1 ac cl ct cc c B (wr.alloc (.cells #[.int .i64 n.kind, .int .i64 n.so, .slice al n.labs.length cl, .slice at1 n.to.length ct] 60)) (hla'.keep (b1.mono (by omega))) (hta'.keep (b1.mono (by omega))) (hca'.keep (b1.mono (by omega))) (by simp; omega) hsl.1 hsl.2.1 hto s0 s1 s2 s3 s4 s5 m0 m1 m2 m3 m4 m5 hK
      simp only [ndVal] at cD
      have HFI := hideK hFI
      have HMP := hideK hMP
      have HBR := hideK hbr
      have HKO := hideK hko
      have HKN := hideK hknd
      have HKL := hideK hkl
      have H1 := hideK hkm1
      have H2 := hideK hkm2
      have B1 := hideK b1
      have HK := hideK hK
      clear hFI hMP hko hknd hkl hkm1 hkm2 b1 hla' hta' hca' hto hsl hK hmk hmm
      by_cases hin2 : keyOfN c n ∈ s.1
      · have HX := hideK (show splitStep c s n = (s.1, s.2 ++ [s.1.idxOf (keyOfN c n)]) from by unfold splitStep; rw [if_pos hin2])
        have HP := hideK (H2.out hin2)
        clear hin2 H1 H2
        generalize s.1.idxOf (keyOfN c n) = x at *
        go_wp2_with fail
        refine cD.mono ?_
        rintro e w2 ⟨rfl, hb2⟩
        have BB := hideK (show Below wr.heap.size wr (w2.alloc (.cells #[.int .i64 n.kind, .int .i64 n.so, .string s0, .string s1, .string s2, .string s3, .string s4, .string s5, .int .i64 m0, .int .i64 m1, .int .i64 m2, .int .i64 m3, .int .i64 m4, .int .i64 m5] 118)) from (B1.out.trans (hb2.mono (by simp))).alloc (by have := hb2.size; simp at this; omega) _)
        have HF3 := hideK (HFI.out.kept (below_grown BB.out none) (by simp))
        have HM3 := hideK (HMP.out.kept (below_grown BB.out none) (by simp))
        have hrun := lookG_in HM3.out HKO.out HKN.out HKL.out HP.out
        have q1 := HF3.out.cell k (by omega)
        have q2 := HF3.out.fr k
        clear cD hb2 B1 c0 c1 c2 c3
        go_wp2_with (at_lookup; refine wpList_look rfl (.tmp 28) (.tmp 29) 114 rfl rfl rfl hrun ?_)
        go_roundw
        case rel =>
          refine ⟨k + 1, by omega, by go_num, ?_, ?_, ?_, ?_⟩
          · rw [HST.out, HX.out]; exact HF3.out.put hlt hlen2 x
          · rw [HST.out, HX.out]; exact HM3.out.kept (grown_set _ _ _ _) (by simp)
          · exact ((HBR.out.trans (BB.out.mono HBR.out.size))).setCell (p := ⟨w.heap.size, k, none⟩) (Nat.le_refl _) _
          · have := BB.out.size; simp at this ⊢; omega
        case measure => simp [intOf]; omega
      · have HX := hideK (show splitStep c s n = (s.1 ++ [keyOfN c n], s.2 ++ [s.1.length]) from by unfold splitStep; rw [if_neg hin2])
        have HP := hideK (fun hm => hin2 (H1.out.1 hm))
        have HKK := hideK (show kvK (keyOfN c n) = .agg #[.int .i64 n.kind, .int .i64 n.so, .string s0, .string s1, .string s2, .string s3, .string s4, .string s5, .int .i64 m0, .int .i64 m1, .int .i64 m2, .int .i64 m3, .int .i64 m4, .int .i64 m5] from by rw [kv_key]; unfold kvN; rw [HK.out])
        clear hin2 H1 H2
        go_wp2_with fail
        refine cD.mono ?_
        rintro e w2 ⟨rfl, hb2⟩
        have BB := hideK (show Below wr.heap.size wr (w2.alloc (.cells #[.int .i64 n.kind, .int .i64 n.so, .string s0, .string s1, .string s2, .string s3, .string s4, .string s5, .int .i64 m0, .int .i64 m1, .int .i64 m2, .int .i64 m3, .int .i64 m4, .int .i64 m5] 118)) from (B1.out.trans (hb2.mono (by simp))).alloc (by have := hb2.size; simp at this; omega) _)
        have HF3 := hideK (HFI.out.kept (below_grown BB.out none) (by simp))
        have HM3 := hideK (HMP.out.kept (below_grown BB.out none) (by simp))
        obtain ⟨hrun, hupd⟩ := look_out HM3.out HKO.out HKL.out HP.out
        obtain ⟨W4, hru, hg4, hs4, hmp4⟩ := hupd ((s.1.length : Nat) : Int)
        have HF4 := hideK (HF3.out.kept hg4 (by simp))
        have HM4 := hideK (hmp4 (by rw [List.length_map]))
        have q1 := HF4.out.cell k (by omega)
        have q2 := HF4.out.fr k
        have HB4 := hideK (show Below w.heap.size w W4 from (HBR.out.trans (BB.out.mono HBR.out.size)).grown hg4 (by have := BB.out.size; omega) (fun j hj => by injection hj with hj; omega))
        have hlm : ∀ ty, (Builtin.len_ #[114] ty #[.map (some (w.heap.size + 1))]).run Tryd.prog (w2.alloc (.cells #[.int .i64 n.kind, .int .i64 n.so, .string s0, .string s1, .string s2, .string s3, .string s4, .string s5, .int .i64 m0, .int .i64 m1, .int .i64 m2, .int .i64 m3, .int .i64 m4, .int .i64 m5] 118)) = .ok (.int .i64 ((s.1.length : Nat) : Int)) (w2.alloc (.cells #[.int .i64 n.kind, .int .i64 n.so, .string s0, .string s1, .string s2, .string s3, .string s4, .string s5, .int .i64 m0, .int .i64 m1, .int .i64 m2, .int .i64 m3, .int .i64 m4, .int .i64 m5] 118)) := fun ty => by have := HM3.out.len ty; rw [List.length_map] at this; exact this
        clear cD hb2 B1 c0 c1 c2 c3 hupd hg4 hmp4
        go_wp2_with (first
          | (at_lookup; refine wpList_look rfl (.tmp 28) (.tmp 29) 114 rfl rfl rfl hrun ?_)
          | (at_mapUpdate; refine wpList_upd rfl (.tmp 37) (.tmp 38) (.tmp 39) 114 rfl rfl rfl rfl hru ?_))
        go_roundw
        case rel =>
          refine ⟨k + 1, by omega, by go_num, ?_, ?_, ?_, ?_⟩
          · rw [HST.out, HX.out]
            exact HF4.out.put hlt hlen2 s.1.length
          · rw [HST.out, HX.out, List.map_append, List.map_cons, List.map_nil, HKK.out]; exact HM4.out.kept (grown_set _ _ _ _) (by simp)
          · exact HB4.out.setCell (p := ⟨w.heap.size, k, none⟩) (Nat.le_refl _) _
          · have h1 := BB.out.size
            have h2 := hs4
            simp at h1 h2 ⊢
            omega
        case measure => simp [intOf]; omega
    · have hltz : ¬ (k : Int) < (g.length : Int) := by omega
      have hkl : k = g.length := by omega
      subst hkl
      have et : g.take g.length = g := List.take_length
      rw [et] at hFI hMP SI
      have HFI := hideK hFI
      have HMP := hideK hMP
      have HBR := hideK hbr
      clear hFI hMP hbr
      have hlm : ∀ ty, (Builtin.len_ #[114] ty #[.map (some (w.heap.size + 1))]).run Tryd.prog wr = .ok (.int .i64 (((splitG g c).1.length : Nat) : Int)) wr := fun ty => by have := HMP.out.len ty; rw [List.length_map] at this; exact this
      go_wp2_with fail
      refine bodyPost_ret (v := .tuple #[.slice (some ⟨w.heap.size, 0, none⟩) g.length g.length, .int .i64 (((splitG g c).1.length : Nat) : Int)]) (by simp [results, Tryd.results51, go_sem]) rfl ⟨⟨_, rfl, HFI.out.all SI.len⟩, HBR.out⟩
end Go.Proofs.YthhbbhijpkoelaaDoor
/-
  The contract of graph.classes.
-/
namespace Go.Proofs.YthhbbhijpkoelaaDoor
open Go.RowKit Go.Shelf

/-- a graph as graph.Check lets it by -/
structure GR1 (g : List Nd) : Prop where
  pos : 0 < g.length
  le : g.length ≤ 1000
  shp : ∀ n ∈ g, shpN n
  shut : shutG g
theorem split_le {g : List Nd} {c : List Nat} (hl : g.length ≤ 1000) : ∀ x ∈ (splitG g c).2, x ≤ 1000 := by
  intro x hx
  have h := split_inv g c
  obtain ⟨i, hi, rfl⟩ := (h.val x).1 hx
  have h1 := List.idxOf_lt_length_of_mem ((h.mem (keyOfN c g[i])).2 ⟨_, List.getElem_mem hi, rfl⟩)
  have h2 := cnt_le (splitG g c).2
  have h3 := h.len
  have h4 := h.cn
  omega
set_option maxRecDepth 100000 in
set_option maxHeartbeats 2000000 in
theorem classes_any (g : List Nd) (ag : Option Addr) (cg B : Nat) (w : World) (hg : GR1 g) (hga : GAt w B g ag) (hB : B ≤ w.heap.size) :
    Calls Tryd.prog 38 #[.slice ag g.length cg] w fun e w' => (∃ af cl, e = .returned (.slice af g.length g.length) ∧ CLS g cl ∧ NI w' w'.heap.size cl af) ∧ Below w.heap.size w w' := by
  obtain ⟨Z, hZ, hmk⟩ := makeI g.length hg.le
  have hgl : (g.length : Int) ≤ 1000 := by have := hg.le; omega
  have S0 := hideK (show NI (w.alloc (.cells Z 3)) (w.alloc (.cells Z 3)).heap.size (List.replicate g.length 0) (some ⟨w.heap.size, 0, none⟩) from by
    have h0 := FI.zero (w := w) (n := g.length) hZ (Below.refl _ _)
    refine .inr ⟨w.heap.size, 0, rfl, by simp, fun i hi => ?_⟩
    have hi' : i < g.length := by simpa using hi
    rw [Nat.zero_add, h0.cell i hi', if_neg (Nat.not_lt_zero _)]
    simp)
  have B0 := hideK (show Below w.heap.size w (w.alloc (.cells Z 3)) from (Below.refl _ _).alloc (Nat.le_refl _) _)
  have C0 := hideK (cnt_zero g.length hg.pos)
  have P0 := hideK (pat_zero g)
  clear hZ
  go_enter Tryd.func38, Tryd.ntmps38
  go_wp2_with fail
  go_loopw [3, 4] (fun u z wr => ∃ (k : Nat) (c : List Nat) (ac : Option Addr), u = .slice ac g.length g.length ∧ z = .int .i64 ((cnt c : Nat) : Int) ∧ patG g k c ∧ (∀ x ∈ c, x ≤ 1000) ∧ NI wr wr.heap.size c ac ∧ Below w.heap.size w wr) (fun _ z _ => g.length - (intOf z).toNat)
  case atStart => exact ⟨0, List.replicate g.length 0, _, rfl, by rw [C0.out]; rfl, P0.out, fun x hx => by rw [(List.mem_replicate.1 hx).2]; omega, S0.out, B0.out⟩
  case round =>
    obtain ⟨k, c, ac, rfl, rfl, hp, hx, hni, hb⟩ := hrel
    clear S0 B0 C0 P0 hmk
    have hok : GOK g c := ⟨hg.le, fun n hn => ⟨hg.shp n hn, fun t ht => by rw [hp.1]; exact hg.shut n hn t ht⟩, hx⟩
    have cS := split_any g c ag ac cg g.length wr.heap.size wr hok ((hga.keep (hb.mono hB)).mono (Nat.le_trans hB hb.size)) hni (Nat.le_refl _)
    rw [hp.1] at cS
    have HP := hideK hp
    have HB := hideK hb
    have HD := hideK (cls_done hg.shut hp)
    have HM := hideK (cls_more hg.shut hp)
    have HN := hideK (pat_split hg.shut hp)
    have HC := hideK (split_inv g c).cn
    clear hp hb hni hok hx
    by_cases he : (splitG g c).1.length = cnt c
    · have heb : (((splitG g c).1.length : Int) == ((cnt c : Nat) : Int)) = true := by rw [he]; simp
      have HE := hideK he
      clear he
      go_wp2_with fail
      refine cS.mono ?_
      rintro e w2 ⟨⟨af, rfl, hn2⟩, hb2⟩
      go_wp2_with fail
      go_ret
      exact ⟨⟨_, _, rfl, HD.out HE.out, hn2⟩, HB.out.trans (hb2.mono HB.out.size)⟩
    · have heb : (((splitG g c).1.length : Int) == ((cnt c : Nat) : Int)) = false := by simpa using fun h : ((splitG g c).1.length : Int) = ((cnt c : Nat) : Int) => he (by omega)
      have HE := hideK he
      have hmm := HM.out he
      clear he
      go_wp2_with fail
      refine cS.mono ?_
      rintro e w2 ⟨⟨af, rfl, hn2⟩, hb2⟩
      go_wp2_with fail
      go_roundw
      case rel => exact ⟨k + 1, (splitG g c).2, af, rfl, by rw [← HC.out], HN.out, split_le hg.le, hn2, HB.out.trans (hb2.mono HB.out.size)⟩
      case measure => simp [intOf]; omega
end Go.Proofs.YthhbbhijpkoelaaDoor

/-
  The contract of graph.copied: labels, copied into a row of the call's own.
-/
namespace Go.Proofs.YthhbbhijpkoelaaDoor
open Go.RowKit Go.Shelf

theorem cloneG_any (s : ByteArray) (w : World) (hs : s.size ≤ 281474976710656) :
    Calls Tryd.prog 52 #[.string s] w fun e w' => e = .returned (.string s) ∧ Below w.heap.size w w' := by
  have c : Calls Tryd.prog 62 #[.string s] w fun e w' => e = .returned (.string s) ∧ Below w.heap.size w w' := Any.stringslite_Clone Tryd.laysM316 s w hs
  go_enter Tryd.func52, Tryd.ntmps52
  go_wp2_with fail
  refine c.mono ?_
  rintro e w1 ⟨rfl, hb⟩
  go_wp2_with fail
  go_ret
  exact ⟨rfl, hb⟩
theorem own_belowG {base : Nat} {e : TypeId} {size : Nat} {v : Value} {n : Nat} {xs : List Value} {w w' : World} (h : w.ownsRow base e size v n xs) (hb : Below w.heap.size w w') : w'.ownsRow base e size v n xs := by
  refine h.kept (below_grown hb (some w.heap.size)) ?_
  cases hq : v.ownBlock with
  | none => exact .inl rfl
  | some g => exact .inr (fun e => by injection e with e; have := (h.lt g hq).2; omega)
theorem own_baseG {w : World} {base : Nat} {e : TypeId} {size : Nat} {u : Value} {m : Nat} {ys : List Value} (h : w.ownsRow base e size u m ys) : ∀ k, u.ownBlock = some k → base ≤ k := fun k hk => (h.lt k hk).1
theorem infoSG : (Tryd.prog.info? 9).map (fun i => (i.zero, i.size, i.bytes)) = some (some (.string ⟨#[]⟩), 1, 16) := by kernel_rfl
theorem lit_rowG (e : TypeId) (base : Nat) (W : World) (v : Value) (H : Nat) (hH : W.heap.size = H) (hb : base ≤ H) : (W.alloc (.cells #[v] e)).ownsRow base e 1 (.slice (some ⟨H, 0, none⟩) 1 1) 1 [v] := by
  subst hH
  exact World.ownsRow_lit W #[v] 1 hb (by decide) rfl
set_option maxRecDepth 100000 in
set_option maxHeartbeats 2000000 in
theorem copiedG_any (ls : List ByteArray) (al : Option Addr) (cl B : Nat) (w : World) (hla : LA w B ls al) (hB : B ≤ w.heap.size) (hl : ls.length ≤ 1000) (hs : ∀ l ∈ ls, l.size ≤ 281474976710656) :
    Calls Tryd.prog 40 #[.slice al ls.length cl] w fun e w' => ∃ u, e = .returned u ∧ w'.ownsRow w.heap.size 9 1 u ls.length (ls.map Value.string) ∧ Below w.heap.size w w' := by
  obtain ⟨i0, hi, hx⟩ := Option.map_eq_some_iff.1 infoSG
  simp only [Prod.mk.injEq] at hx
  obtain ⟨hz0, hz1, hz2⟩ := hx
  have hlz : (ls.length : Int) ≤ 1000 := by omega
  go_enter Tryd.func40, Tryd.ntmps40
  go_wp2_with fail
  go_loopw [3, 8] (fun u i wr => ∃ k : Nat, k ≤ ls.length ∧ i = .int .i64 (k : Int) ∧ wr.ownsRow w.heap.size 9 1 u k ((ls.take k).map Value.string) ∧ Below w.heap.size w wr) (fun _ i _ => ls.length - (intOf i).toNat)
  case atStart => exact ⟨0, Nat.zero_le _, rfl, World.ownsRow_nil _ _ _ _, Below.refl _ _⟩
  case round =>
    obtain ⟨k, hk, rfl, hO, hb⟩ := hrel
    by_cases hlt : k < ls.length
    · have hltz : (k : Int) < (ls.length : Int) := by omega
      obtain ⟨lb, lo, rfl, hlb, hlc⟩ := hla.resolve_left (fun h => by have := congrArg List.length h; simp at this; rw [this] at hlt; simp at hlt)
      have d1 := (hb.cell (p := ⟨lb, lo + k, none⟩) (by show lb < w.heap.size; omega)).trans (hlc k (by simpa using hlt))
      rw [List.getElem_map] at d1
      have cC := fun W : World => cloneG_any ls[k] W (hs _ (List.getElem_mem hlt))
      have HT := hideK (show (ls.take (k + 1)).map Value.string = (ls.take k).map Value.string ++ [.string ls[k]] from by rw [List.take_succ_eq_append_getElem hlt, List.map_append]; rfl)
      have HO := hideK hO
      have HB := hideK hb
      have CC := hideK cC
      clear hO hb hlc cC
      generalize ls[k] = s at *
      go_wp2_with fail
      refine (CC.out _).mono ?_
      rintro e w2 ⟨rfl, hb2⟩
      have B2 := hideK (HB.out.trans (hb2.mono HB.out.size))
      have O2 := hideK (own_belowG HO.out hb2)
      have LR := hideK (lit_rowG 9 w.heap.size w2 (.string s) w2.heap.size rfl B2.out.size)
      have OA := hideK (own_belowG O2.out ((Below.refl _ _).alloc (Nat.le_refl _) (.cells #[.string s] 9)))
      have hsz := B2.out.size
      clear hb2 HO d1
      go_wp2_with (at_builtin; refine wpList_append_rows _ rfl (.tmp 12) (.tmp 15) 22 rfl w.heap.size w.heap.size 9 i0 (.string ⟨#[]⟩) 1 16 Tryd.underlying22 hi hz0 hz1 hz2 rfl (by decide) _ _ _ rfl OA.out _ _ _ rfl LR.out (by simp [Value.oneCell']) (by unfold maxLen; omega) (by omega) (by simp; omega) ?_; intro v7 w7 hO7 hg7 hat7)
      go_roundw
      case rel =>
        refine ⟨k + 1, by omega, by go_num, ?_, ?_⟩
        · rw [HT.out]; exact hO7
        · exact (B2.out.alloc hsz _).grown hg7 (by simp; omega) (own_baseG O2.out)
      case measure => simp [intOf]; omega
    · have hltz : ¬ (k : Int) < (ls.length : Int) := by omega
      have hkl : k = ls.length := by omega
      subst hkl
      rw [List.take_length] at hO
      go_wp2_with fail
      go_ret
      exact ⟨_, rfl, hO, hb⟩
end Go.Proofs.YthhbbhijpkoelaaDoor
