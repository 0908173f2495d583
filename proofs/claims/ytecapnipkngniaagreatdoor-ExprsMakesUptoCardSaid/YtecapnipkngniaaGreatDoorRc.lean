/-
  append onto a row that a call owns, from whatever lies in memory; then the contract of duetref.Expr, for every expression of at most a million parts.
-/
import Derived.Test.YtecapnipkngniaaGreatDoorRa
import Derived.Test.YtecapnipkngniaaGreatDoorRb
import Derived.Test.YtecapnipkngniaaGreatDoorYa
import Derived.Test.YtecapnipkngniaaGreatDoorXf
import Derived.Deep.DeepCutAuto
import Derived.Deep.RegionHeld3
namespace Go.Proofs.YtecapnipkngniaaGreatDoor
open Go.RowKit Go.Shelf

theorem run_append_nil (P : Program) (w : World) (base : Nat) (t ty e : TypeId) (i : TypeInfo) (size : Nat) (ht : P.underlying t = some (.slice e)) (hi : P.info? e = some i) (c : Nat)
    (v : Value) (n : Nat) (xs : List Value) (hown : w.ownsRow base e size v n xs) :
    (Builtin.append_ #[t, t] ty #[v, .slice none 0 c]).run P w = .ok v w := by
  rcases hown.2 with ⟨rfl, rfl⟩ | ⟨g, cap, cur, rfl, _, _, hnc, _⟩
  · simp [Builtin.append_, run_underlying ht, sizeOf, typeInfo, hi, Builtin.lenOf, Builtin.firstCells]
  · simp [Builtin.append_, run_underlying ht, sizeOf, typeInfo, hi, Builtin.lenOf, Builtin.firstCells, hnc, storeCells]
theorem infoEx : (Tryz.prog.info? 26).map (fun i => (i.zero, i.size, i.bytes)) = some (some (.agg #[.int .i64 0, .string ⟨#[]⟩, .int .i64 0, .int .i64 0, .string ⟨#[]⟩, .slice none 0 0]), 6, 80) := by kernel_rfl
/-- at a step of a region that draws its order -/
theorem step_append_src (w : World) {ops : Array Oper} {o : Oper} {a : Act} {K : Act → World → Prop} {Q : Exit → Act → World → Prop} {E : Prop} (hgd : o.guard = none) (s x : Operand)
    (ho : o.op = .call { callee := .builtin .append, args := #[s, x], argTypes := #[24, 24] })
    (base : Nat) (v : Value) (n : Nat) (xs : List Value) (hs : a.eval s = v) (hown : w.ownsRow base 26 6 v n xs)
    (sa : Option Addr) (m c : Nat) (news : List Value) (hx : a.eval x = .slice sa m c) (hl : news.length = m * 6) (h0 : sa = none → m = 0) (hnews : ∀ ad, sa = some ad → ∀ j u, news[j]? = some u → w.cell? (ad.add j) = some u) (h1 : ∀ u ∈ news, u.oneCell' = true)
    (hb : n + m ≤ 2000000) (hbase : base ≤ w.heap.size)
    (h : ∀ v' w', w'.ownsRow base 26 6 v' (n + m) (xs ++ news) → w.grownBy w' v.ownBlock → (v'.ownBlock = v.ownBlock ∨ v'.ownBlock = some w.heap.size) → K (a.put o.dst v') w') :
    if Region.wanted o (yielded ops a.tmps) = true then Oper.wp Tryz.prog o a w K Q else E := by
  have hw : Region.wanted o (yielded ops a.tmps) = true := by simp [Region.wanted, hgd]
  rw [if_pos hw]
  obtain ⟨i, hi, hz0, hz1, hz2⟩ := info_parts infoEx
  have hrun : ∃ v' w', (Builtin.append_ #[24, 24] o.type #[v, .slice sa m c]).run Tryz.prog w = .ok v' w' ∧ w'.ownsRow base 26 6 v' (n + m) (xs ++ news) ∧ w.grownBy w' v.ownBlock ∧ (v'.ownBlock = v.ownBlock ∨ v'.ownBlock = some w.heap.size) := by
    cases sa with
    | none =>
      have hm := h0 rfl
      subst hm
      have hn : news = [] := List.eq_nil_of_length_eq_zero (by simpa using hl)
      subst hn
      exact ⟨v, w, run_append_nil Tryz.prog w base _ _ 26 i 6 Tryz.underlying24 hi c v n xs hown, by simpa using hown, World.grownBy.refl _ _, .inl rfl⟩
    | some ad =>
      obtain ⟨v', w', hr, h2, h3, _, h5⟩ := run_append_own_at (P := Tryz.prog) w base 24 o.type 26 i _ 6 80 Tryz.underlying24 hi hz0 hz1 hz2 rfl (by decide) v n xs hown ad m c news hl (hnews ad rfl) h1 (by unfold maxLen; omega) (by omega) hbase
      exact ⟨v', w', hr, h2, h3, h5⟩
  obtain ⟨v', w', hr, h2, h3, h4⟩ := hrun
  unfold Oper.wp execOp
  simp only [ho, resolve, invoke, builtin, Sem.run_bind, Sem.run_pure, Result.andThen_ok, List.map_toArray, List.map_cons, List.map_nil, hs, hx, hr]
  exact h v' w' h2 h3 h4
theorem hide0 {p : Prop} (h : p) : Hid p := h
theorem bchain {V W W' : World} (h : Below V.heap.size V W) (h2 : Below W.heap.size W W') : Below V.heap.size V W' := h.trans (h2.mono h.size)
theorem exAt_of_own {W : World} {base g n c : Nat} {t : Tk} {r : List Tk} (h : W.ownsRow base 26 6 (.slice (some ⟨g, 0, none⟩) n c) n (eCs (t :: r))) : ExAt W g 0 t.1 t.2.1 t.2.2 := by
  obtain ⟨g', c', e, _, _, hc⟩ := (own_cells h).resolve_left (fun h => by cases h.1)
  injection e with e1 _ _
  injection e1 with e1
  injection e1 with e1
  subst e1
  exact ⟨hc 0 _ rfl, hc 1 _ rfl, hc 2 _ rfl, hc 3 _ rfl, hc 4 _ rfl, hc 5 _ rfl⟩
theorem src_of_ka {w W : World} {ks : List Ex} {ao : Option Addr} {ts : List Tk} (hm : ts.map (·.1) = ks) (h : ks = [] ∨ ∃ b o, ao = some ⟨b, o, none⟩ ∧ b < w.heap.size ∧ ∀ j u, (eCs ts)[j]? = some u → w.cell? ⟨b, o + j, none⟩ = some u) (hb : Below w.heap.size w W) :
    ∀ ad, ao = some ad → ∀ j u, (eCs ts)[j]? = some u → W.cell? (ad.add j) = some u := by
  intro ad had j u hj
  rcases h with h | ⟨b, o, e, hlt, hc⟩
  · have : ts = [] := by rw [h] at hm; simpa using hm
    subst this; simp [eCs] at hj
  · rw [e] at had
    injection had with had
    subst had
    have e2 : (⟨b, o, none⟩ : Addr).add j = ⟨b, o + j, none⟩ := by unfold Addr.add; split <;> simp_all
    rw [e2]
    exact (hb.cell (p := ⟨b, o + j, none⟩) hlt).trans (hc j u hj)
theorem src_of_row {V W : World} {g : Nat} {news : List Value} (h : ∀ j u, news[j]? = some u → V.cell? ⟨g, 6 + j, none⟩ = some u) (hg : g < V.heap.size) (hb : Below V.heap.size V W) :
    ∀ ad, some (⟨g, 6, none⟩ : Addr) = some ad → ∀ j u, news[j]? = some u → W.cell? (ad.add j) = some u := by
  intro ad had j u hj
  injection had with had
  subst had
  have e2 : (⟨g, 6, none⟩ : Addr).add j = ⟨g, 6 + j, none⟩ := by unfold Addr.add; split <;> simp_all
  rw [e2]
  exact (hb.cell (p := ⟨g, 6 + j, none⟩) hg).trans (h j u hj)
theorem bapp {V W W' : World} {row : Option Nat} (h : Below V.heap.size V W) (hg : W.grownBy W' row) (hr : ∀ k, row = some k → V.heap.size ≤ k) : Below V.heap.size V W' := h.grown hg h.size hr
theorem own_since {V W : World} {v1 : Value} (h : Below V.heap.size V W) (hat : v1.ownBlock = (Value.slice none 0 0).ownBlock ∨ v1.ownBlock = some W.heap.size) : ∀ k, v1.ownBlock = some k → V.heap.size ≤ k := by
  intro k hk
  have := h.size
  rcases hat with e | e
  · rw [e] at hk; cases hk
  · rw [e] at hk; injection hk with hk; omega
def nzZ (p : Ex) : Bool := decide (p.so = 0 ∧ p.n = 0 ∧ p.s = ⟨#[]⟩)
theorem prt1 (p : Ex) (h : p.kind = 1) : prtZ p = if (p.name.toList.isEmpty && decide (p.kids.length = 0)) = true then chkZ vD p.so p.n p.s else 1 := by
  unfold prtZ
  have : partOK p = (p.name.toList.isEmpty && decide (p.kids.length = 0)) := by rw [empty_toList]; simp [partOK, h]
  rw [this]
  cases p.name.toList.isEmpty && decide (p.kids.length = 0) <;> simp [h]
theorem prt2 (p : Ex) (h : p.kind = 2) : prtZ p = if (nzZ p && isNm p.name.data.toList && decide (p.kids.length = 0)) = true then 0 else 1 := by
  unfold prtZ
  have : partOK p = (nzZ p && isNm p.name.data.toList && decide (p.kids.length = 0)) := by
    unfold partOK nzZ; rw [if_neg (by omega), if_pos h]
    rw [Bool.eq_iff_iff]; simp only [Bool.and_eq_true, decide_eq_true_eq]
    constructor
    · rintro ⟨a, b, c, d, e⟩; exact ⟨⟨⟨b, c, d⟩, a⟩, e⟩
    · rintro ⟨⟨⟨b, c, d⟩, a⟩, e⟩; exact ⟨a, b, c, d, e⟩
  rw [this]
  cases nzZ p && isNm p.name.data.toList && decide (p.kids.length = 0) <;> simp [h]
theorem prt3 (p : Ex) (h : p.kind = 3) : prtZ p = if (nzZ p && isOp p.name.data.toList p.kids.length) = true then 0 else 1 := by
  unfold prtZ
  have : partOK p = (nzZ p && isOp p.name.data.toList p.kids.length) := by
    unfold partOK nzZ; rw [if_neg (by omega), if_neg (by omega), if_pos h]
  rw [this]
  cases nzZ p && isOp p.name.data.toList p.kids.length <;> simp [h]
theorem prt4 (p : Ex) (h1 : p.kind ≠ 1) (h2 : p.kind ≠ 2) (h3 : p.kind ≠ 3) : prtZ p = 1 := by
  unfold prtZ
  have : partOK p = false := by unfold partOK; rw [if_neg h1, if_neg h2, if_neg h3]
  rw [if_pos this]
theorem tok_app {W : World} {B : Nat} {a b : List Tk} (h1 : TOK W B a) (h2 : TOK W B b) : TOK W B (a ++ b) := fun t ht => by
  rcases List.mem_append.1 ht with h | h
  · exact h1 t h
  · exact h2 t h

set_option maxRecDepth 100000 in
set_option maxHeartbeats 4000000 in
theorem refExpr_any (d : Nat) (x : Ex) (ao : Option Addr) (cap : Nat) (w : World) (hbd : ExBd x cap) (hka : KA w w.heap.size d x.kids ao) (hsz : sizeX x ≤ 1048576) (h0 : Tabs w) :
    Calls Tryz.prog 4 #[exVal x ao cap] w fun e w' => e = .returned (.int .i64 (chkX x)) ∧ Below w.heap.size w w' := by
  have hstart : ((w.alloc (.cells #[.int .i64 x.kind, .string x.name, .int .i64 x.so, .int .i64 x.n, .string x.s, .slice ao x.kids.length cap] 26)).alloc (.cells #[.int .i64 x.kind, .string x.name, .int .i64 x.so, .int .i64 x.n, .string x.s, .slice ao x.kids.length cap] 26)).ownsRow w.heap.size 26 6 (.slice (some ⟨w.heap.size + 1, 0, none⟩) 1 1) 1 (eCs [(x, ao, cap)]) := by
    have := World.ownsRow_lit (base := w.heap.size) (e := 26) (size := 6) (w.alloc (.cells #[.int .i64 x.kind, .string x.name, .int .i64 x.so, .int .i64 x.n, .string x.s, .slice ao x.kids.length cap] 26)) #[.int .i64 x.kind, .string x.name, .int .i64 x.so, .int .i64 x.n, .string x.s, .slice ao x.kids.length cap] 1 (by simp) (by decide) rfl
    rw [World.size_alloc] at this
    exact this
  have HT0 : Hid (TOK w w.heap.size [(x, ao, cap)]) := fun t ht => by
    simp only [List.mem_singleton] at ht; subst ht; exact ⟨hbd, d, hka⟩
  have HS0 := hide0 hstart
  have HB0 : Below w.heap.size w ((w.alloc (.cells #[.int .i64 x.kind, .string x.name, .int .i64 x.so, .int .i64 x.n, .string x.s, .slice ao x.kids.length cap] 26)).alloc (.cells #[.int .i64 x.kind, .string x.name, .int .i64 x.so, .int .i64 x.n, .string x.s, .slice ao x.kids.length cap] 26)) := ((Below.refl _ _).alloc (Nat.le_refl _) _).alloc (by simp) _
  simp only [exVal]
  have HSZ := hide0 hsz
  clear hbd hka hstart hsz
  go_enter Tryz.func4, Tryz.ntmps4
  go_wp2_with fail
  go_loopw [3, 4] (fun v i wr => ∃ (n : Nat) (ts : List Tk), n ≤ 60 ∧ i = .int .i64 (n : Int) ∧ wr.ownsRow w.heap.size 26 6 v ts.length (eCs ts) ∧ TOK w w.heap.size ts ∧ (chkL (ts.map (·.1)) (0, n)).1 = chkX x ∧ ((ts.map (·.1)).map sizeX).sum ≤ 1048576 ∧ Below w.heap.size w wr) (fun _ i _ => 60 - (intOf i).toNat)
  case atStart => exact ⟨0, [(x, ao, cap)], by omega, rfl, HS0.out, HT0.out, rfl, by simpa using HSZ.out, HB0⟩
  case round =>
    obtain ⟨n, ts, hn, rfl, hO, hTK, hch, hsum, hbr⟩ := hrel
    clear HS0 HT0 HSZ HB0
    cases ts with
    | nil =>
      have HC := hide0 hch
      rcases own_cells hO with ⟨rfl, _, _⟩ | ⟨g, c, rfl, _, _, _⟩
      all_goals
        clear hO hTK hch hsum
        try simp only [List.length_nil]
        go_wp2_with fail
        go_ret
        refine ⟨?_, hbr⟩
        have := HC.out
        rw [List.map_nil, chkL_nil] at this
        rw [← this]; rfl
    | cons t r =>
      obtain ⟨g, c, rfl, _, hg, hc⟩ := (own_cells hO).resolve_left (fun h => by have := h.2.1; simp at this)
      have hE := exAt_of_own hO
      simp only [List.map_cons] at hch hsum
      have hln : (t :: r).length = r.length + 1 := rfl
      rw [hln] at hO ⊢
      have hmz : (0 : Int) < (r.length : Int) + 1 := by omega
      by_cases h60 : n = 60
      · subst h60
        rw [chkL_full] at hch
        have HC := hide0 hch
        clear hO hTK hch hsum hc hE
        go_wp2_with fail
        go_ret
        exact ⟨by rw [← HC.out]; rfl, hbr⟩
      · have h60z : ((n : Int) == 60) = false := by simp; omega
        obtain ⟨y0, y1, y2, y3, y4, y5⟩ := id hE
        simp only [Nat.zero_add] at y0 y1 y2 y3 y4 y5
        obtain ⟨tb, dd, hkk⟩ := hTK t (.head _)
        have hcap : r.length + 1 ≤ c := by
          rcases hO.2 with ⟨e, _⟩ | ⟨g', c', cur, e, _, _, h3, _⟩
          · cases e
          · injection e with _ _ e3; rw [← e3] at h3; exact h3
        obtain ⟨tks, hmap, htok, hsrc⟩ := ka_list hkk
        have hkl : t.1.kids.length = tks.length := by rw [← hmap, List.length_map]
        have hA : Below wr.heap.size wr (wr.alloc (.cells #[.int .i64 t.1.kind, .string t.1.name, .int .i64 t.1.so, .int .i64 t.1.n, .string t.1.s, .slice t.2.1 t.1.kids.length t.2.2] 26)) := (Below.refl _ _).alloc (Nat.le_refl _) _
        have hbV := bchain hbr hA
        have hP : ExAt (wr.alloc (.cells #[.int .i64 t.1.kind, .string t.1.name, .int .i64 t.1.so, .int .i64 t.1.n, .string t.1.s, .slice t.2.1 t.1.kids.length t.2.2] 26)) wr.heap.size 0 t.1 t.2.1 t.2.2 := ⟨by go_cell, by go_cell, by go_cell, by go_cell, by go_cell, by go_cell⟩
        have hpl : wr.heap.size < (wr.alloc (.cells #[.int .i64 t.1.kind, .string t.1.name, .int .i64 t.1.so, .int .i64 t.1.n, .string t.1.s, .slice t.2.1 t.1.kids.length t.2.2] 26)).heap.size := by simp
        have hgl : g < (wr.alloc (.cells #[.int .i64 t.1.kind, .string t.1.name, .int .i64 t.1.so, .int .i64 t.1.n, .string t.1.s, .slice t.2.1 t.1.kids.length t.2.2] 26)).heap.size := by simp; omega
        have hn0 : t.2.1 = none → t.1.kids.length = 0 := fun e => by
          rcases hsrc with h | ⟨b, o, e', _⟩
          · rw [h]; rfl
          · rw [e] at e'; cases e'
        have hcr : ∀ j u, (eCs r)[j]? = some u → (wr.alloc (.cells #[.int .i64 t.1.kind, .string t.1.name, .int .i64 t.1.so, .int .i64 t.1.n, .string t.1.s, .slice t.2.1 t.1.kids.length t.2.2] 26)).cell? ⟨g, 6 + j, none⟩ = some u := fun j u hj => by
          refine (World.cell?_alloc_past _ _ _ hg).trans (hc (6 + j) u ?_)
          have e : eCs (t :: r) = eC t ++ eCs r := rfl
          have hl : (eC t).length = 6 := rfl
          rw [e, List.getElem?_append_right (by omega), hl]
          simpa using hj
        have hsum2 : ((tks ++ r).map (·.1)).map sizeX = (t.1.kids ++ r.map (·.1)).map sizeX := by rw [List.map_append, hmap]
        have hlen2 : tks.length + r.length ≤ 1048576 := by
          have h1 := len_sizes ((tks ++ r).map (·.1))
          have h2 := sizes_step t.1 (r.map (·.1))
          rw [hsum2] at h1
          simp only [List.length_map, List.length_append] at h1
          simp only [List.map_cons] at h2
          omega
        have hlen3 : t.1.kids.length + r.length ≤ 1048576 := by rw [hkl]; exact hlen2
        have hlen4 : 0 + t.1.kids.length ≤ 2000000 := by omega
        have hlen5 : 0 + t.1.kids.length + r.length ≤ 2000000 := by omega
        have hr1z : (1 : Int) ≤ (r.length : Int) + 1 := by omega
        have hsum3 : (((tks ++ r).map (·.1)).map sizeX).sum ≤ 1048576 := by
          rw [hsum2]
          have h2 := sizes_step t.1 (r.map (·.1))
          simp only [List.map_cons] at h2
          omega
        have HTOK := hide0 (tok_app htok (fun t' ht' => hTK t' (.tail _ ht')))
        have HSUM := hide0 hsum3
        have HMAP := hide0 hmap
        have HSRC := hide0 hsrc
        have HCH := hide0 hch
        have HCR := hide0 hcr
        have HP := hide0 hP
        have HBV := hide0 hbV
        have HTB := hide0 tb
        have one1 := eCs_one tks
        have one2 := eCs_one r
        have el1 : (eCs tks).length = t.1.kids.length * 6 := by rw [hkl]; exact eCs_len tks
        have el2 := eCs_len r
        have HKL := hide0 hkl
        clear hlen2 hkl hO hTK hch hsum hc hE hkk htok hsrc hmap hcr hP hbV hA hsum2 hsum3 tb hbr
        go_wp2_with fail
        clear y0 y1 y2 y3 y4 y5
        generalize wr.alloc (.cells #[.int .i64 t.1.kind, .string t.1.name, .int .i64 t.1.so, .int .i64 t.1.n, .string t.1.s, .slice t.2.1 t.1.kids.length t.2.2] 26) = V at *
        go_cut [3] (fun s3 wc => wc.ownsRow w.heap.size 26 6 s3 (tks ++ r).length (eCs (tks ++ r)) ∧ Below V.heap.size V wc)
        case first =>
          obtain ⟨_, _, _, _, _, p5⟩ := id HP.out
          simp only [Nat.zero_add] at p5
          by_cases hc1 : c = 1
          case' pos =>
            have hr0 : r = [] := List.eq_nil_of_length_eq_zero (by omega)
            subst hc1
            subst hr0
          all_goals
            go_region_held3 (fun w' => w'.cell? ⟨wr.heap.size, 5, none⟩ = some (.slice t.2.1 t.1.kids.length t.2.2)) (go_keep) (first
              | (refine step_append_src _ (by rfl) (.const (.slice none 0 0)) (.tmp 22) (by rfl) w.heap.size (.slice none 0 0) 0 [] rfl (World.ownsRow_nil _ _ _ _) t.2.1 t.1.kids.length t.2.2 (eCs tks) rfl el1 hn0 (src_of_ka HMAP.out HSRC.out (bchain HBV.out (by go_grown))) one1 (by omega) (bchain HBV.out (by go_grown)).size ?_; intro v1 w1 hO1 hg1 hat1; have B1 := bapp (V := V) (by go_grown) hg1 (fun k hk => (by cases hk)); have hv1 := own_since (V := V) (by go_grown) hat1; have p5' := (B1.cell (p := ⟨wr.heap.size, 5, none⟩) hpl).trans p5)
              | (refine step_append_src _ (by rfl) (.tmp 23) (.tmp 25) (by rfl) w.heap.size v1 (0 + t.1.kids.length) ([] ++ eCs tks) rfl hO1 (some ⟨g, 6, none⟩) r.length (c - 1) (eCs r) rfl el2 (fun e => (by cases e)) (src_of_row HCR.out hgl B1) one2 (by omega) (bchain HBV.out B1).size ?_; intro v2 w2 hO2 hg2 _; have B2 := bapp B1 hg2 hv1; have p5'' := (B2.cell (p := ⟨wr.heap.size, 5, none⟩) hpl).trans p5)
              | (refine step_append_src _ (by rfl) (.tmp 23) (.tmp 25) (by rfl) w.heap.size v1 (0 + t.1.kids.length) ([] ++ eCs tks) rfl hO1 (some ⟨g, 0, none⟩) 0 0 [] rfl rfl (fun e => (by cases e)) (fun _ _ j u hj => (by simp at hj)) (fun u hu => (by cases hu)) (by omega) (bchain HBV.out B1).size ?_; intro v2 w2 hO2 hg2 _; have B2 := bapp B1 hg2 hv1; have p5'' := (B2.cell (p := ⟨wr.heap.size, 5, none⟩) hpl).trans p5))
            go_wp2_with fail
            go_meet
            case rel =>
              refine ⟨?_, B2⟩
              rw [eCs_app, List.length_append, ← HKL.out]
              simpa [eCs] using hO2
        case rest =>
          obtain ⟨hO3, B2⟩ := hcut
          have hn60 : n < 60 := by omega
          have hb2 := bchain HBV.out B2
          have HER : Hid (prtZ t.1 ≠ 0 → chkX x = prtZ t.1) := fun h => by rw [← HCH.out]; exact chkL_part t.1 (r.map (·.1)) n hn60 h
          have HNX : Hid (prtZ t.1 = 0 → (chkL ((tks ++ r).map (·.1)) (0, n + 1)).1 = chkX x) := fun h => by
            rw [List.map_append, HMAP.out, ← chkL_step t.1 (r.map (·.1)) n hn60 h]; exact HCH.out
          obtain ⟨y0, y1, y2, y3, y4, y5⟩ := HP.out.keep B2 hpl
          simp only [Nat.zero_add] at y0 y1 y2 y3 y4 y5
          have hP2 := HP.out.keep B2 hpl
          have HP2 := hide0 hP2
          have HO3 := hide0 hO3
          have HB2 := hide0 hb2
          have hpl2 := Nat.lt_of_lt_of_le hpl B2.size
          clear HCH HMAP HSRC HCR HP HBV one1 one2 el1 el2 hP2 hO3 hb2 B2 hn0 hcap hlen3 hlen4 hlen5 hr1z hgl hpl
          go_upto_region 9 with fail
          go_cut [6] (fun s6 wd => s6 = .bool (nzZ t.1) ∧ Below wc.heap.size wc wd)
          case first =>
            rcases zero_cases t.1.so t.1.n t.1.s with ⟨e1, e2, e3⟩ | hz | ⟨e1, hz⟩ | ⟨e1, e2, hz⟩
            · have hN : Hid (nzZ t.1 = true) := by unfold nzZ; show decide _ = true; simp [e1, e2, e3]
              rw [e1] at y2; rw [e2] at y3; rw [e3] at y4
              clear e1 e2 e3
              go_wp2_with fail
              go_meet
              case rel => exact ⟨by rw [hN.out], by go_grown⟩
            · have hN : Hid (nzZ t.1 = false) := by unfold nzZ; show decide _ = false; simp [hz]
              have b1 : (t.1.so == 0) = false := by simpa using hz
              clear hz
              go_wp2_with fail
              go_meet
              case rel => exact ⟨by rw [hN.out], by go_grown⟩
            · have hN : Hid (nzZ t.1 = false) := by unfold nzZ; show decide _ = false; simp [hz]
              have b1 : (t.1.n == 0) = false := by simpa using hz
              rw [e1] at y2
              clear hz e1
              go_wp2_with fail
              go_meet
              case rel => exact ⟨by rw [hN.out], by go_grown⟩
            · have hN : Hid (nzZ t.1 = false) := by unfold nzZ; show decide _ = false; simp [hz]
              have b1 : t.1.s.toList.isEmpty = false := by rw [empty_toList]; simpa using hz
              rw [e1] at y2; rw [e2] at y3
              clear hz e1 e2
              go_wp2_with fail
              go_meet
              case rel => exact ⟨by rw [hN.out], by go_grown⟩
          case rest =>
            obtain ⟨rfl, hb3⟩ := hcut
            have hb4 := bchain HB2.out hb3
            have hT4 : Tabs wc := at_tabs h0 hb4
            have HO4 := hide0 (own_keep0 HO3.out hb3)
            have hpl3 : wr.heap.size < wc.heap.size := Nat.lt_of_lt_of_le hpl2 hb3.size
            obtain ⟨z0, z1, z2, z3, z4, z5⟩ := HP2.out.keep hb3 hpl2
            simp only [Nat.zero_add] at z0 z1 z2 z3 z4 z5
            have hER1 : prtZ t.1 = 1 → chkX x = 1 := fun h => by rw [HER.out (by rw [h]; decide), h]
            have HR1 := hide0 hER1
            have hkz : (t.1.kids.length : Int) ≤ 9223372036854775807 := by have := HTB.out.kids; have := HTB.out.cap; omega
            have HB4 := hide0 hb4
            have HT4 := hide0 hT4
            have hnext : prtZ t.1 = 0 → ∀ W, Below wc.heap.size wc W → ∃ (n' : Nat) (ts' : List Tk), n' ≤ 60 ∧ Value.int .i64 ((n : Int) + 1) = .int .i64 (n' : Int) ∧ W.ownsRow w.heap.size 26 6 u3 ts'.length (eCs ts') ∧ TOK w w.heap.size ts' ∧ (chkL (ts'.map (·.1)) (0, n')).1 = chkX x ∧ ((ts'.map (·.1)).map sizeX).sum ≤ 1048576 ∧ Below w.heap.size w W := fun h W hW =>
              ⟨n + 1, tks ++ r, by omega, by go_num, own_keep0 HO4.out hW, HTOK.out, HNX.out h, HSUM.out, bchain HB4.out hW⟩
            have HNEXT := hide0 hnext
            clear y0 y1 y2 y3 y4 y5 HP2 HO3 HB2 hb3 hb4 hT4 HO4 HNX hER1 hnext HTOK HSUM HKL
            by_cases h1 : t.1.kind = 1
            · have hp := prt1 t.1 h1
              rw [h1] at z0
              clear h1
              cases hne : t.1.name.toList.isEmpty with
              | false =>
                rw [hne, Bool.false_and, if_neg (by simp)] at hp
                have HX := hide0 (HR1.out hp)
                clear hp HER HR1 HNEXT
                go_wp2_with fail
                go_ret
                exact ⟨by rw [HX.out]; rfl, HB4.out⟩
              | true =>
                rw [hne, Bool.true_and] at hp
                by_cases hk0 : t.1.kids.length = 0
                · rw [if_pos (by simp [hk0])] at hp
                  have cV := refValue_any t.1.so t.1.n t.1.s wc HT4.out
                  generalize chkZ vD t.1.so t.1.n t.1.s = z at cV hp
                  rw [hk0] at z5
                  have HPZ := hide0 hp
                  clear hk0 hp
                  by_cases hz : z = 0
                  · subst hz
                    have HN := HNEXT.out HPZ.out
                    have HN2 := hide0 HN
                    clear HER HR1 HNEXT HN
                    go_wp2_with fail
                    refine cV.mono ?_
                    rintro e w5 ⟨rfl, hb5⟩
                    clear cV z0 z1 z2 z3 z4 z5
                    go_wp2_with fail
                    go_roundw
                    case rel => exact HN2.out _ hb5
                    case measure => simp [intOf]; omega
                  · have hzb : (z != 0) = true := by simpa using hz
                    have HX := hide0 (HER.out (by rw [HPZ.out]; exact hz))
                    clear HER HR1 HNEXT hz
                    go_wp2_with fail
                    refine cV.mono ?_
                    rintro e w5 ⟨rfl, hb5⟩
                    have hbe := bchain HB4.out hb5
                    clear cV z0 z1 z2 z3 z4 z5
                    go_wp2_with fail
                    go_ret
                    exact ⟨by rw [HX.out, HPZ.out]; rfl, hbe⟩
                · rw [if_neg (by simp [hk0])] at hp
                  have HX := hide0 (HR1.out hp)
                  have hkp : (0 : Int) < (t.1.kids.length : Int) := by omega
                  clear hp HER HR1 HNEXT hk0
                  go_wp2_with fail
                  go_ret
                  exact ⟨by rw [HX.out]; rfl, HB4.out⟩
            · have k1 : (t.1.kind == 1) = false := by simpa using h1
              by_cases h2 : t.1.kind = 2
              · have hp := prt2 t.1 h2
                rw [h2] at z0
                clear h1 h2 k1
                have cI := refIsName_any t.1.name wc HTB.out.name
                generalize nzZ t.1 = nz at hp ⊢
                generalize isNm t.1.name.data.toList = q at hp cI
                cases nz with
                | false =>
                  rw [Bool.false_and, Bool.false_and, if_neg (by simp)] at hp
                  have HX := hide0 (HR1.out hp)
                  clear hp HER HR1 HNEXT cI
                  go_wp2_with fail
                  go_ret
                  exact ⟨by rw [HX.out]; rfl, HB4.out⟩
                | true =>
                  rw [Bool.true_and] at hp
                  cases q with
                  | false =>
                    rw [Bool.false_and, if_neg (by simp)] at hp
                    have HX := hide0 (HR1.out hp)
                    clear hp HER HR1 HNEXT
                    go_wp2_with fail
                    refine cI.mono ?_
                    rintro e w5 ⟨rfl, hb5⟩
                    have hbe := bchain HB4.out hb5
                    clear cI z0 z1 z2 z3 z4 z5
                    go_wp2_with fail
                    go_ret
                    exact ⟨by rw [HX.out]; rfl, hbe⟩
                  | true =>
                    rw [Bool.true_and] at hp
                    by_cases hk0 : t.1.kids.length = 0
                    · rw [if_pos (by simp [hk0])] at hp
                      have HN2 := hide0 (HNEXT.out hp)
                      have z5' := z5
                      rw [hk0] at z5'
                      clear hp HER HR1 HNEXT hk0
                      go_wp2_with fail
                      refine cI.mono ?_
                      rintro e w5 ⟨rfl, hb5⟩
                      have q5 := (hb5.cell (p := ⟨wr.heap.size, 5, none⟩) hpl3).trans z5'
                      clear cI z0 z1 z2 z3 z4 z5 z5'
                      go_wp2_with fail
                      go_roundw
                      case rel => exact HN2.out _ hb5
                      case measure => simp [intOf]; omega
                    · rw [if_neg (by simp [hk0])] at hp
                      have HX := hide0 (HR1.out hp)
                      have hkp : (0 : Int) < (t.1.kids.length : Int) := by omega
                      clear hp HER HR1 HNEXT hk0
                      go_wp2_with fail
                      refine cI.mono ?_
                      rintro e w5 ⟨rfl, hb5⟩
                      have q5 := (hb5.cell (p := ⟨wr.heap.size, 5, none⟩) hpl3).trans z5
                      have hbe := bchain HB4.out hb5
                      clear cI z0 z1 z2 z3 z4 z5
                      go_wp2_with fail
                      go_ret
                      exact ⟨by rw [HX.out]; rfl, hbe⟩
              · have k2 : (t.1.kind == 2) = false := by simpa using h2
                by_cases h3 : t.1.kind = 3
                · have hp := prt3 t.1 h3
                  rw [h3] at z0
                  clear h1 h2 h3 k1 k2
                  have cV := refLevel_any t.1.name wc
                  generalize nzZ t.1 = nz at hp ⊢
                  have hop : isOp t.1.name.data.toList t.1.kids.length = ((((t.1.name.toList == [110, 111, 116]) || (t.1.name.toList == [110, 101, 103])) || (t.1.name.toList == [35])) && decide (t.1.kids.length = 1) || decide (0 < lvl t.1.name.data.toList) && decide (t.1.kids.length = 2)) := by
                    rw [beqL, beqL, beqL]
                    unfold isOp
                    by_cases a1 : t.1.kids.length = 1
                    · rw [if_pos a1]; simp [a1, Bool.or_assoc]
                    · rw [if_neg a1]
                      by_cases a2 : t.1.kids.length = 2
                      · rw [if_pos a2]; simp [a2]
                      · rw [if_neg a2]; simp [a1, a2]
                  rw [hop] at hp
                  generalize lvl t.1.name.data.toList = lz at cV hp
                  clear hop
                  cases nz with
                  | false =>
                    rw [Bool.false_and, if_neg (by simp)] at hp
                    have HX := hide0 (HR1.out hp)
                    clear hp HER HR1 HNEXT cV
                    cases hA : t.1.name.toList == [110, 111, 116] <;> cases hB : t.1.name.toList == [110, 101, 103] <;> cases hC : t.1.name.toList == [35]
                    all_goals
                      go_wp2_with fail
                      go_ret
                      exact ⟨by rw [HX.out]; rfl, HB4.out⟩
                  | true =>
                    rw [Bool.true_and] at hp
                    obtain ⟨on, hon⟩ : ∃ on, on = (((t.1.name.toList == [110, 111, 116]) || (t.1.name.toList == [110, 101, 103])) || (t.1.name.toList == [35])) := ⟨_, rfl⟩
                    rw [← hon] at hp
                    have HON := hide0 hon
                    clear hon
                    have hgo : ((on && decide (t.1.kids.length = 1) || decide (0 < lz) && decide (t.1.kids.length = 2)) = true ∧ prtZ t.1 = 0) ∨ ((on && decide (t.1.kids.length = 1) || decide (0 < lz) && decide (t.1.kids.length = 2)) = false ∧ prtZ t.1 = 1) := by
                      cases hq : (on && decide (t.1.kids.length = 1) || decide (0 < lz) && decide (t.1.kids.length = 2)) with
                      | true => rw [hq, if_pos rfl] at hp; exact .inl ⟨rfl, hp⟩
                      | false => rw [hq, if_neg (by simp)] at hp; exact .inr ⟨rfl, hp⟩
                    clear hp
                    rcases hgo with ⟨hq, hp⟩ | ⟨hq, hp⟩
                    · have HN2 := hide0 (HNEXT.out hp)
                      clear hp HER HR1 HNEXT
                      by_cases a1 : t.1.kids.length = 1
                      · have o1 : on = true := by simpa [a1] using hq
                        have zz5 := z5
                        rw [a1] at zz5
                        clear hq a1 z5 cV
                        cases hA : t.1.name.toList == [110, 111, 116] <;> cases hB : t.1.name.toList == [110, 101, 103] <;> cases hC : t.1.name.toList == [35]
                        all_goals
                          first
                          | (exfalso; have := HON.out; rw [hA, hB, hC, o1] at this; cases this; done)
                          | (go_wp2_with fail
                             go_roundw
                             case rel => exact HN2.out _ (Below.refl _ _)
                             case measure => simp [intOf]; omega)
                      · have o2 : 0 < lz ∧ t.1.kids.length = 2 := by simpa [a1] using hq
                        obtain ⟨o2, o3⟩ := o2
                        have zz5 := z5
                        rw [o3] at zz5
                        clear hq a1 z5 o3
                        cases hA : t.1.name.toList == [110, 111, 116] <;> cases hB : t.1.name.toList == [110, 101, 103] <;> cases hC : t.1.name.toList == [35]
                        all_goals
                          go_wp2_with (go_at_call 18; refine cV.mono ?_; rintro e w5 ⟨rfl, hb5⟩; have q5 := (hb5.cell (p := ⟨wr.heap.size, 5, none⟩) hpl3).trans zz5; have hbe := bchain HB4.out hb5)
                          go_roundw
                          case rel => exact HN2.out _ hb5
                          case measure => simp [intOf]; omega
                    · have HX := hide0 (HR1.out hp)
                      clear hp HER HR1 HNEXT
                      by_cases a1 : t.1.kids.length = 1
                      · have o1 : on = false := by simpa [a1] using hq
                        have zz5 := z5
                        rw [a1] at zz5
                        clear hq a1 z5
                        by_cases hl : 0 < lz
                        all_goals
                          cases hA : t.1.name.toList == [110, 111, 116] <;> cases hB : t.1.name.toList == [110, 101, 103] <;> cases hC : t.1.name.toList == [35]
                          all_goals
                            first
                            | (exfalso; have := HON.out; rw [hA, hB, hC, o1] at this; cases this; done)
                            | (go_wp2_with (go_at_call 18; refine cV.mono ?_; rintro e w5 ⟨rfl, hb5⟩; have q5 := (hb5.cell (p := ⟨wr.heap.size, 5, none⟩) hpl3).trans zz5; have hbe := bchain HB4.out hb5)
                               go_ret
                               exact ⟨by rw [HX.out]; rfl, hbe⟩)
                      · have kz1 : ((t.1.kids.length : Int) == 1) = false := by simp; omega
                        by_cases hl : 0 < lz
                        · have a2 : ¬ t.1.kids.length = 2 := by simpa [a1, hl] using hq
                          have kz2 : ((t.1.kids.length : Int) == 2) = false := by simp; omega
                          clear hq a1 a2
                          cases hA : t.1.name.toList == [110, 111, 116] <;> cases hB : t.1.name.toList == [110, 101, 103] <;> cases hC : t.1.name.toList == [35]
                          all_goals
                            go_wp2_with (go_at_call 18; refine cV.mono ?_; rintro e w5 ⟨rfl, hb5⟩; have q5 := (hb5.cell (p := ⟨wr.heap.size, 5, none⟩) hpl3).trans z5; have hbe := bchain HB4.out hb5)
                            go_ret
                            exact ⟨by rw [HX.out]; rfl, hbe⟩
                        · clear hq a1
                          cases hA : t.1.name.toList == [110, 111, 116] <;> cases hB : t.1.name.toList == [110, 101, 103] <;> cases hC : t.1.name.toList == [35]
                          all_goals
                            go_wp2_with (go_at_call 18; refine cV.mono ?_; rintro e w5 ⟨rfl, hb5⟩; have q5 := (hb5.cell (p := ⟨wr.heap.size, 5, none⟩) hpl3).trans z5; have hbe := bchain HB4.out hb5)
                            go_ret
                            exact ⟨by rw [HX.out]; rfl, hbe⟩
                · have hp := prt4 t.1 h1 h2 h3
                  have k3 : (t.1.kind == 3) = false := by simpa using h3
                  have HX := hide0 (HR1.out hp)
                  clear hp HER HR1 HNEXT h1 h2 h3
                  go_wp2_with fail
                  go_ret
                  exact ⟨by rw [HX.out]; rfl, HB4.out⟩
end Go.Proofs.YtecapnipkngniaaGreatDoor
