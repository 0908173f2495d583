/-
  The contracts of graph.next, longer, countWays and Runs.
-/
import Derived.Test.YtnedgkcejlhnbaaDoorLii
import Derived.Test.YtnedgkcejlhnbaaDoorZf
import Derived.Test.YtnedgkcejlhnbaaDoorNm
namespace Go.Proofs.YtnedgkcejlhnbaaDoor
open Go.RowKit Go.Shelf Go.Lib

theorem ni_tail {W : World} {B x : Nat} {ts : List Nat} {b o : Nat} (h : NI W B (x :: ts) (some ⟨b, o, none⟩)) : NI W B ts (some ⟨b, o + 1, none⟩) := by
  rcases h with h | ⟨b', o', e, hl, hc⟩
  · simp at h
  · injection e with e
    injection e with e1 e2
    subst e1 e2
    refine .inr ⟨b, o + 1, rfl, hl, fun i hi => ?_⟩
    have := hc (i + 1) (by simpa using hi)
    rw [show o + 1 + i = o + (i + 1) by omega, this]
    simp
set_option maxRecDepth 100000 in
set_option maxHeartbeats 2000000 in
theorem next_any (n : Nd) (a1 a2 : Option Addr) (c1 c2 B : Nat) (w : World) (hn : okN n) (hT : NI w B n.to a2) (hc : n.to.length ≤ c2) :
    Calls Tryd.prog 62 #[ndVal n a1 c1 a2 c2] w fun e w' => (∃ a c, e = .returned (.slice a (nxN n).length c) ∧ NI w B (nxN n) a) ∧ Below w.heap.size w w' := by
  by_cases hk : n.kind = 4 ∨ n.kind = 5
  · have hl := (okN_len hn).2.1 hk
    have hl6 := (shp_len (okN_shp hn)).2.1
    have HN := hideP (show nxN n = n.to.drop 1 from if_pos hk)
    obtain ⟨b, o, rfl, _⟩ := id (hT.resolve_left (fun q => by rw [List.map_eq_nil_iff] at q; rw [q] at hl; simp at hl))
    have HT := hideP (show NI w B (n.to.drop 1) (some ⟨b, o + 1, none⟩) from by
      cases e : n.to with
      | nil => rw [e] at hl; simp at hl
      | cons x ts => rw [e] at hT; exact ni_tail hT)
    have HL := hideP (show (nxN n).length = n.to.length - 1 from by rw [HN.out, List.length_drop])
    have hz1 : (1 : Int) ≤ (n.to.length : Int) := by omega
    have hz2 : (n.to.length : Int) ≤ (c2 : Int) := by omega
    have hz3 : ¬ (c2 = 1) := by omega
    clear hT hn
    simp only [ndVal]
    rcases hk with hk | hk
    all_goals
      rw [hk]
      clear hk
      go_enter Tryd.func62, Tryd.ntmps62
      go_wp2_with fail
      go_ret
      exact ⟨⟨_, _, by rw [HL.out]; rfl, by rw [HN.out]; exact HT.out⟩, (Below.refl _ _).alloc (Nat.le_refl _) _⟩
  · have HN := hideP (show nxN n = n.to from if_neg hk)
    have hk4 : (n.kind == 4) = false := by rw [beq_eq_false_iff_ne]; exact fun e => hk (.inl e)
    have hk5 : (n.kind == 5) = false := by rw [beq_eq_false_iff_ne]; exact fun e => hk (.inr e)
    have HT := hideP hT
    clear hk hT hn
    simp only [ndVal]
    go_enter Tryd.func62, Tryd.ntmps62
    go_wp2_with fail
    go_ret
    exact ⟨⟨a2, c2, by rw [HN.out]; rfl, by rw [HN.out]; exact HT.out⟩, (Below.refl _ _).alloc (Nat.le_refl _) _⟩
/-- ways that have one doing more -/
def nxW (g : List Nd) (f : Nat → List Nat) (i : Nat) : List Nat := (nxN (nodeAt g i)).foldl (fun s t => plusL s (f t) 0) zero9
theorem infoC : (Tryd.prog.info? 62).map (fun i => (i.zero, i.size, i.bytes)) = some (some (.agg #[.int .u64 0, .int .u64 0, .int .u64 0, .int .u64 0, .int .u64 0, .int .u64 0, .int .u64 0, .int .u64 0, .int .u64 0]), 9, 72) := by kernel_rfl
theorem makeC (n : Nat) (hn : n ≤ 1000) : ∃ Z : Array Value, (∀ j, j < n * 9 → Z[j]? = some (.int .u64 0)) ∧ ∀ w : World, (Instr.makeSlice 90 (.int .i64 (n : Int)) (.int .i64 (n : Int))).run Tryd.prog w = .ok (.slice (some ⟨w.heap.size, 0, none⟩) n n) (w.alloc (.cells Z 62)) := by
  obtain ⟨i, hi, hx⟩ := Option.map_eq_some_iff.1 infoC
  simp only [Prod.mk.injEq] at hx
  obtain ⟨h1, h2, h3⟩ := hx
  refine ⟨madeCells (Value.agg #[.int .u64 0, .int .u64 0, .int .u64 0, .int .u64 0, .int .u64 0, .int .u64 0, .int .u64 0, .int .u64 0, .int .u64 0]).cells (n * i.size), fun j hj => ?_, fun w => ?_⟩
  · rw [h2]
    unfold madeCells
    rw [Array.getElem?_map, Array.getElem?_range, if_pos hj]
    have : j % 9 < 9 := Nat.mod_lt _ (by omega)
    simp [Value.cells]
    generalize j % 9 = r at *
    match r, this with
    | 0, _ | 1, _ | 2, _ | 3, _ | 4, _ | 5, _ | 6, _ | 7, _ | 8, _ => rfl
  · have := run_make (P := Tryd.prog) w 90 62 i _ Tryd.underlying90 hi h1 .i64 .i64 (n : Int) (n : Int) (by omega) (by omega) (by rw [h3]; omega) (by omega)
    simpa using this
/-- a row of counts in new memory -/
structure LG (w wr : World) (ob n : Nat) (F : Nat → List Nat) : Prop where
  row : ∀ i, i < n → CtAt wr ob (i * 9) (F i)
  fz : ∀ o, wr.frozen? ⟨ob, o, none⟩ = false
  lt : ob < wr.heap.size
  ge : w.heap.size ≤ ob
  bl : Below w.heap.size w wr
def upC (F : Nat → List Nat) (i : Nat) (c : List Nat) : Nat → List Nat := fun j => if j = i then c else F j
theorem LG.put {w wr : World} {ob n : Nat} {F : Nat → List Nat} (h : LG w wr ob n F) {i : Nat} (hi : i < n) (c : List Nat) : LG w (st9 wr ob (i * 9) c) ob n (upC F i c) := by
  refine ⟨fun j hj => ?_, fun o => (st9_frozen _).trans (h.fz o), by rw [st9_size]; exact h.lt, h.ge, st9_below h.bl h.ge⟩
  unfold upC
  by_cases e : j = i
  · rw [if_pos e, e]
    exact st9_at fun k hk => (h.row i hi).at k hk
  · rw [if_neg e]
    exact ct_of fun k hk => (st9_other (.inr (by omega))).trans ((h.row j hj).at k hk)
theorem LG.keep {w wr wr' : World} {ob n : Nat} {F : Nat → List Nat} (h : LG w wr ob n F) (hb : Below wr.heap.size wr wr') : LG w wr' ob n F :=
  ⟨fun i hi => (h.row i hi).keep hb h.lt, fun o => (hb.frozen (p := ⟨ob, o, none⟩) h.lt).trans (h.fz o), Nat.lt_of_lt_of_le h.lt hb.size, h.ge, h.bl.trans (hb.mono h.bl.size)⟩
theorem LG.drew {w wr : World} {ob n : Nat} {F : Nat → List Nat} (h : LG w wr ob n F) : LG w wr.drew ob n F := ⟨fun i hi => (h.row i hi).drew, h.fz, h.lt, h.ge, h.bl.drew⟩
theorem LG.congr {w wr : World} {ob n : Nat} {F G : Nat → List Nat} (h : LG w wr ob n F) (e : ∀ i, i < n → F i = G i) : LG w wr ob n G := ⟨fun i hi => by rw [← e i hi]; exact h.row i hi, h.fz, h.lt, h.ge, h.bl⟩
theorem LG.made {w V : World} {Z : Array Value} {n : Nat} (hb : Below w.heap.size w V) (hZ : ∀ j, j < n * 9 → Z[j]? = some (.int .u64 0)) : LG w (V.alloc (.cells Z 62)) V.heap.size n (fun _ => zero9) :=
  ⟨fun i hi => ct_of fun j hj => by
    rw [World.cell?_alloc_new, hZ _ (by omega)]
    match j, hj with
    | 0, _ | 1, _ | 2, _ | 3, _ | 4, _ | 5, _ | 6, _ | 7, _ | 8, _ => rfl, fun o => World.frozen?_alloc_new _ _ _ _, by simp, hb.size, hb.alloc hb.size _⟩
theorem take_fold {f : Nat → List Nat} (l : List Nat) (q : Nat) (hq : q < l.length) (s : List Nat) : (l.take (q + 1)).foldl (fun s t => plusL s (f t) 0) s = plusL ((l.take q).foldl (fun s t => plusL s (f t) 0) s) (f l[q]) 0 := by
  rw [List.take_succ_eq_append_getElem hq, List.foldl_append]; rfl
theorem zero9_lt : ∀ x ∈ zero9, x < gpB := fun x hx => by simp [zero9] at hx; unfold gpB; omega
theorem nx_mem {g : List Nd} (hg : GN g) {i : Nat} (hi : i < g.length) {t : Nat} (ht : t ∈ nxN (nodeAt g i)) : t < g.length := by
  have h : t ∈ (nodeAt g i).to := by
    unfold nxN at ht
    split at ht
    · exact List.mem_of_mem_drop ht
    · exact ht
  rw [nodeAt_lt g i hi] at h
  exact hg.shut _ (List.getElem_mem hi) t h
set_option maxRecDepth 100000 in
set_option maxHeartbeats 4000000 in
theorem longer_any (g : List Nd) (ag : Option Addr) (cg B : Nat) (w : World) (hg : GN g) (hga : GAK w B g ag) (hB : B ≤ w.heap.size) (f : Nat → List Nat) (wb : Nat) (hW : ∀ i, i < g.length → CtAt w wb (i * 9) (f i)) (hwb : wb < w.heap.size) (hf9 : ∀ i, (f i).length = 9) (hfl : ∀ i, ∀ x ∈ f i, x < gpB) :
    Calls Tryd.prog 36 #[.slice ag g.length cg, .slice (some ⟨wb, 0, none⟩) g.length g.length] w fun e w' => ∃ ob, e = .returned (.slice (some ⟨ob, 0, none⟩) g.length g.length) ∧ LG w w' ob g.length (nxW g f) := by
  have hpos := hg.pos
  have hle := hg.le
  obtain ⟨gb, go, rfl, hgB, hgc⟩ := hga.resolve_left (fun q => by rw [q] at hpos; simp at hpos)
  obtain ⟨Z, hZ, hmk⟩ := makeC g.length (by omega)
  have hlen0 : ¬ (g.length : Int) < 0 := by omega
  have HL0 := hideP (LG.made (n := g.length) (Below.refl w.heap.size w) hZ)
  have HG := hideP hg
  have HGC := hideP hgc
  have HW := hideP hW
  have HF9 := hideP hf9
  have HFL := hideP hfl
  clear hg hgc hga hW hf9 hfl hZ
  go_enter Tryd.func36, Tryd.ntmps36
  go_wp2_with fail
  go_loopw [15] (fun v wr => ∃ m : Nat, m ≤ g.length ∧ v = .int .i64 (m : Int) ∧ LG w wr w.heap.size g.length (fun i => if i < m then nxW g f i else zero9)) (fun v _ => g.length - (intOf v).toNat)
  case atStart => exact ⟨0, Nat.zero_le _, rfl, HL0.out.congr fun i _ => (if_neg (by omega)).symm⟩
  case round =>
    obtain ⟨m, hm, rfl, hL⟩ := hrel
    by_cases hlt : m < g.length
    · have hltz : (m : Int) < (g.length : Int) := by omega
      obtain ⟨a1, c1, a2, c2, hN, hLb, hT, hcp⟩ := HGC.out m hlt
      have hbB := hL.bl.mono hB
      obtain ⟨m0, m1, m2, m3⟩ := hN.keep hbB hgB
      have hLx := hL.keep ((Below.refl wr.heap.size wr).alloc (Nat.le_refl _) (.cells #[.int .i64 g[m].kind, .int .i64 g[m].so, .slice a1 g[m].labs.length c1, .slice a2 g[m].to.length c2] 29))
      have c := next_any g[m] a1 a2 c1 c2 B (wr.alloc (.cells #[.int .i64 g[m].kind, .int .i64 g[m].so, .slice a1 g[m].labs.length c1, .slice a2 g[m].to.length c2] 29)) (HG.out.ok _ (List.getElem_mem hlt)) (hT.keep (hLx.bl.mono hB)) hcp
      simp only [ndVal] at c
      have HLX := hideP hLx
      have HND := hideP (nodeAt_lt g m hlt)
      have HMEM := hideP (fun t (ht : t ∈ nxN g[m]) => nx_mem HG.out hlt (by rw [nodeAt_lt g m hlt]; exact ht))
      have hlx6 : (nxN g[m]).length ≤ 6 := by
        have := (shp_len (okN_shp (HG.out.ok _ (List.getElem_mem hlt)))).2.1
        unfold nxN
        split
        · rw [List.length_drop]; omega
        · exact this
      clear hN hLb hT hcp hbB hL hLx
      generalize g[m] = nd at *
      go_wp2_with fail
      refine c.mono ?_
      rintro e w1 ⟨⟨a, cc, rfl, hNI⟩, hb1⟩
      have HL1 := hideP (HLX.out.keep hb1)
      have HNI := hideP (hNI.keep (hb1.mono (Nat.le_trans hB HLX.out.bl.size)))
      clear c hNI hb1 m0 m1 m2 m3 HLX
      go_wp2_with fail
      go_loopw [23] (fun v wr => ∃ q : Nat, q ≤ (nxN nd).length ∧ v = .int .i64 (q : Int) ∧ LG w wr w.heap.size g.length (upC (fun i => if i < m then nxW g f i else zero9) m (((nxN nd).take q).foldl (fun s t => plusL s (f t) 0) zero9)) ∧ NI wr B (nxN nd) a) (fun v _ => (nxN nd).length - (intOf v).toNat)
      case atStart =>
        refine ⟨0, Nat.zero_le _, rfl, HL1.out.congr fun i _ => ?_, HNI.out⟩
        unfold upC
        by_cases e : i = m
        · rw [if_pos e, e, if_neg (by omega)]; rfl
        · rw [if_neg e]
      case round =>
        obtain ⟨q, hq, rfl, hL, hNI⟩ := hrel
        by_cases hqt : q < (nxN nd).length
        · have hqz : (q : Int) < ((nxN nd).length : Int) := by omega
          obtain ⟨tb, to1, rfl, htB, htc⟩ := hNI.resolve_left (fun e => by rw [List.map_eq_nil_iff] at e; rw [e] at hqt; simp at hqt)
          have d1 := htc q (by simpa using hqt)
          rw [List.getElem_map] at d1
          have htg := HMEM.out _ (List.getElem_mem hqt)
          have hX9 := foldl_plus_len f HF9.out ((nxN nd).take q) zero9 rfl
          have hXl := foldl_plus_lt f ((nxN nd).take q) zero9 zero9_lt
          have HNX := hideP (take_fold (f := f) (nxN nd) q hqt zero9)
          have HR1 := hideP (hL.row m hlt)
          have HLL := hideP hL
          have HNI1 := hideP hNI
          have HYW := hideP ((HW.out _ htg).keep hL.bl hwb)
          have hY9 := HF9.out (nxN nd)[q]
          have hYl := HFL.out (nxN nd)[q]
          have hup : upC (fun i => if i < m then nxW g f i else zero9) m (((nxN nd).take q).foldl (fun s t => plusL s (f t) 0) zero9) m = ((nxN nd).take q).foldl (fun s t => plusL s (f t) 0) zero9 := if_pos rfl
          rw [hup] at HR1
          clear hup hL hNI htc
          have HP2 := hideP (fun (W : World) (h : LG w W w.heap.size g.length (upC (upC (fun i => if i < m then nxW g f i else zero9) m (((nxN nd).take q).foldl (fun s t => plusL s (f t) 0) zero9)) m (plusL (((nxN nd).take q).foldl (fun s t => plusL s (f t) 0) zero9) (f (nxN nd)[q]) 0))) => show LG w W w.heap.size g.length (upC (fun i => if i < m then nxW g f i else zero9) m (((nxN nd).take (q + 1)).foldl (fun s t => plusL s (f t) 0) zero9)) from h.congr fun i _ => by
            rw [HNX.out]
            unfold upC
            by_cases e : i = m
            · rw [if_pos e, if_pos e]
            · rw [if_neg e, if_neg e, if_neg e])
          clear HNX
          generalize hYe : f (nxN nd)[q] = Y at *
          generalize hXe : ((nxN nd).take q).foldl (fun s t => plusL s (f t) 0) zero9 = X at *
          generalize hte : (nxN nd)[q] = t at *
          clear hYe hte hXe
          have htz : (t : Int) < (g.length : Int) := by omega
          have CP := hideP (fun W => plus_any X Y W hX9 hY9 hXl hYl)
          simp only [ctVal] at CP
          have hox := HLL.out.lt
          have hge := HLL.out.ge
          have HSS := hideP (show CtAt wr.drew w.heap.size (m * 9) X ∧ CtAt wr.drew wb (t * 9) Y from ⟨HR1.out.drew, HYW.out.drew⟩)
          have HLT := hideP (show w.heap.size < wr.heap.size ∧ wb < wr.heap.size from ⟨hox, by omega⟩)
          clear hX9 hY9 hXl hYl HR1 HYW
          go_wp2_with fail
          refine wp_region_upto (fun W : World => CtAt W w.heap.size (m * 9) X ∧ CtAt W wb (t * 9) Y) 12 (by kernel_rfl) (HSS.out) (fun hS => ?_)
          refine upto_take (i := 0) (v := (.slice (some ⟨w.heap.size, 0, none⟩) g.length g.length)) (by rw [List.getElem?_toArray]; rfl) (by kernel_rfl) (by kernel_rfl) (by kernel_rfl) (by kernel_rfl) (by exact fun _ _ _ h => h) (Or.inl ⟨by rfl, fun W hW => by go_simp⟩) hS ?_
          simp only [Act.put, List.setIfInBounds_toArray, List.set_cons_zero, List.set_cons_succ]
          refine upto_take (i := 1) (v := (.int .i64 (m : Int))) (by rw [List.getElem?_toArray]; rfl) (by kernel_rfl) (by kernel_rfl) (by kernel_rfl) (by kernel_rfl) (by exact fun _ _ _ h => h) (Or.inl ⟨by rfl, fun W hW => by go_simp⟩) hS ?_
          simp only [Act.put, List.setIfInBounds_toArray, List.set_cons_zero, List.set_cons_succ]
          refine upto_take (i := 2) (v := (.slice (some ⟨w.heap.size, 0, none⟩) g.length g.length)) (by rw [List.getElem?_toArray]; rfl) (by kernel_rfl) (by kernel_rfl) (by kernel_rfl) (by kernel_rfl) (by exact fun _ _ _ h => h) (Or.inl ⟨by rfl, fun W hW => by go_simp⟩) hS ?_
          simp only [Act.put, List.setIfInBounds_toArray, List.set_cons_zero, List.set_cons_succ]
          refine upto_take (i := 3) (v := (.int .i64 (m : Int))) (by rw [List.getElem?_toArray]; rfl) (by kernel_rfl) (by kernel_rfl) (by kernel_rfl) (by kernel_rfl) (by exact fun _ _ _ h => h) (Or.inl ⟨by rfl, fun W hW => by go_simp⟩) hS ?_
          simp only [Act.put, List.setIfInBounds_toArray, List.set_cons_zero, List.set_cons_succ]
          refine upto_take (i := 4) (v := (.pointer (some ⟨w.heap.size, m * 9, none⟩))) (by rw [List.getElem?_toArray]; rfl) (by kernel_rfl) (by kernel_rfl) (by kernel_rfl) (by kernel_rfl) (by exact fun _ _ _ h => h) (Or.inl ⟨by rfl, fun W hW => by go_simp⟩) hS ?_
          simp only [Act.put, List.setIfInBounds_toArray, List.set_cons_zero, List.set_cons_succ]
          refine upto_take (i := 5) (v := (.agg #[.int .u64 (ga X 0 : Int), .int .u64 (ga X 1 : Int), .int .u64 (ga X 2 : Int), .int .u64 (ga X 3 : Int), .int .u64 (ga X 4 : Int), .int .u64 (ga X 5 : Int), .int .u64 (ga X 6 : Int), .int .u64 (ga X 7 : Int), .int .u64 (ga X 8 : Int)])) (by rw [List.getElem?_toArray]; rfl) (by kernel_rfl) (by kernel_rfl) (by kernel_rfl) (by kernel_rfl) (by exact fun _ _ _ h => h) (Or.inl ⟨by rfl, fun W hW => by obtain ⟨⟨p0, p1, p2, p3, p4, p5, p6, p7, p8⟩, ⟨q0, q1, q2, q3, q4, q5, q6, q7, q8⟩⟩ := hW; go_simp⟩) hS ?_
          simp only [Act.put, List.setIfInBounds_toArray, List.set_cons_zero, List.set_cons_succ]
          refine upto_take (i := 6) (v := (.slice (some ⟨wb, 0, none⟩) g.length g.length)) (by rw [List.getElem?_toArray]; rfl) (by kernel_rfl) (by kernel_rfl) (by kernel_rfl) (by kernel_rfl) (by exact fun _ _ _ h => h) (Or.inl ⟨by rfl, fun W hW => by go_simp⟩) hS ?_
          simp only [Act.put, List.setIfInBounds_toArray, List.set_cons_zero, List.set_cons_succ]
          refine upto_take (i := 7) (v := (.int .i64 (t : Int))) (by rw [List.getElem?_toArray]; rfl) (by kernel_rfl) (by kernel_rfl) (by kernel_rfl) (by kernel_rfl) (by exact fun _ _ _ h => h) (Or.inl ⟨by rfl, fun W hW => by go_simp⟩) hS ?_
          simp only [Act.put, List.setIfInBounds_toArray, List.set_cons_zero, List.set_cons_succ]
          refine upto_take (i := 8) (v := (.pointer (some ⟨wb, t * 9, none⟩))) (by rw [List.getElem?_toArray]; rfl) (by kernel_rfl) (by kernel_rfl) (by kernel_rfl) (by kernel_rfl) (by exact fun _ _ _ h => h) (Or.inl ⟨by rfl, fun W hW => by go_simp⟩) hS ?_
          simp only [Act.put, List.setIfInBounds_toArray, List.set_cons_zero, List.set_cons_succ]
          refine upto_take (i := 9) (v := (.agg #[.int .u64 (ga Y 0 : Int), .int .u64 (ga Y 1 : Int), .int .u64 (ga Y 2 : Int), .int .u64 (ga Y 3 : Int), .int .u64 (ga Y 4 : Int), .int .u64 (ga Y 5 : Int), .int .u64 (ga Y 6 : Int), .int .u64 (ga Y 7 : Int), .int .u64 (ga Y 8 : Int)])) (by rw [List.getElem?_toArray]; rfl) (by kernel_rfl) (by kernel_rfl) (by kernel_rfl) (by kernel_rfl) (by exact fun _ _ _ h => h) (Or.inl ⟨by rfl, fun W hW => by obtain ⟨⟨p0, p1, p2, p3, p4, p5, p6, p7, p8⟩, ⟨q0, q1, q2, q3, q4, q5, q6, q7, q8⟩⟩ := hW; go_simp⟩) hS ?_
          simp only [Act.put, List.setIfInBounds_toArray, List.set_cons_zero, List.set_cons_succ]
          refine upto_one 10 (by rw [List.getElem?_toArray]; rfl) (by kernel_rfl) (fun K hK => ?_)
          go_simp
          refine (CP.out _).mono ?_
          rintro e w5 ⟨rfl, hb5⟩
          have HB5 := hideP hb5
          clear hb5
          have hSn := And.intro (hS.1.keep HB5.out HLT.out.1) (hS.2.keep HB5.out HLT.out.2)
          refine hK.out _ _ hSn ?_
          clear hS hK K hSn
          intro hS
          try simp only [Act.put, List.setIfInBounds_toArray, List.set_cons_zero, List.set_cons_succ]
          refine upto_one 11 (by rw [List.getElem?_toArray]; rfl) (by kernel_rfl) (fun K hK => ?_)
          go_simp
          have hSn := hS
          refine hK.out _ _ hSn ?_
          clear hS hK K hSn
          intro hS
          try simp only [Act.put, List.setIfInBounds_toArray, List.set_cons_zero, List.set_cons_succ]
          have HL5 := hideP (HLL.out.drew.keep HB5.out)
          have hfz5 := HL5.out.fz
          obtain ⟨⟨p0, p1, p2, p3, p4, p5, p6, p7, p8⟩, _⟩ := id hS
          refine upto_last (by rw [List.getElem?_toArray]; rfl) (by kernel_rfl) (fun K hK => ?_)
          go_simp
          refine hK.out _ _ ?_
          clear hS hK K
          refine upto_done (by kernel_rfl) ?_ _
          have HN5 := hideP (HNI1.out.keep ((((Below.refl wr.heap.size wr).drew.trans HB5.out).mono (Nat.le_trans hB HLL.out.bl.size)).trans (st9_below (c := plusL X Y 0) (o := m * 9) (Below.refl B w5) hB)))
          have HQ := hideP (HP2.out _ (HL5.out.put hlt (plusL X Y 0)))
          change Exit.inBlock _ _ _ _ (st9 w5 w.heap.size (m * 9) (plusL X Y 0))
          generalize st9 w5 w.heap.size (m * 9) (plusL X Y 0) = W9 at HN5 HQ ⊢
          clear HL5 HLL HNI1 HP2 HLT HSS CP HB5 p0 p1 p2 p3 p4 p5 p6 p7 p8 hfz5
          go_wp2_with fail
          exact ⟨⟨q + 1, by omega, by go_num, HQ.out, HN5.out⟩, by simp [intOf]; omega⟩

        · have hqz : ¬ (q : Int) < ((nxN nd).length : Int) := by omega
          have hqe : q = (nxN nd).length := by omega
          have HL2 := hideP (show LG w wr w.heap.size g.length (fun i => if i < m + 1 then nxW g f i else zero9) from hL.congr fun i _ => by
            unfold upC
            by_cases e : i = m
            · rw [if_pos e, e, if_pos (by omega), hqe, List.take_length]
              unfold nxW
              rw [HND.out]
            · rw [if_neg e]
              show (if i < m then nxW g f i else zero9) = _
              by_cases l : i < m
              · rw [if_pos l, if_pos (by omega)]
              · rw [if_neg l, if_neg (by omega)])
          clear hL hNI
          go_wp2_with fail
          go_roundw
          case rel => exact ⟨m + 1, by omega, by go_num, HL2.out⟩
          case measure => simp [intOf]; omega
    · have hltz : ¬ (m : Int) < (g.length : Int) := by omega
      have hme : m = g.length := by omega
      have HL2 := hideP (show LG w wr w.heap.size g.length (nxW g f) from hL.congr fun i hi => if_pos (by omega))
      clear hL
      go_wp2_with fail
      go_ret
      exact ⟨w.heap.size, rfl, HL2.out⟩
end Go.Proofs.YtnedgkcejlhnbaaDoor
