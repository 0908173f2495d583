/-
  append onto a row that a call owns, from whatever lies in memory: at a walk's step and at a step of a region that draws its order. The list of parts that duetref.Type looks at: cells, and where what they name lies.
-/
import Derived.Test.YtnlpnbelkkgghaaDoorJy
import Derived.Deep.Slices
import Derived.Deep.RegionHeld3
import Derived.Test.YtnlpnbelkkgghaaDoorVc
namespace Go.Proofs.YtnlpnbelkkgghaaDoor
open Go.RowKit Go.Shelf

theorem run_append_none {P : Program} (w : World) (base : Nat) (t ty e : TypeId) (i : TypeInfo) (size : Nat) (ht : P.underlying t = some (.slice e)) (hi : P.info? e = some i) (c : Nat)
    (v : Value) (n : Nat) (xs : List Value) (hown : w.ownsRow base e size v n xs) :
    (Builtin.append_ #[t, t] ty #[v, .slice none 0 c]).run P w = .ok v w := by
  rcases hown.2 with ⟨rfl, rfl⟩ | ⟨g, cap, cur, rfl, _, _, hnc, _⟩
  · simp [Builtin.append_, run_underlying ht, sizeOf, typeInfo, hi, Builtin.lenOf, Builtin.firstCells]
  · simp [Builtin.append_, run_underlying ht, sizeOf, typeInfo, hi, Builtin.lenOf, Builtin.firstCells, hnc, storeCells]
theorem run_append_src {P : Program} (w : World) (t ty e : TypeId) (base : Nat) (i : TypeInfo) (z : Value) (size bytes : Nat) (ht : P.underlying t = some (.slice e)) (hi : P.info? e = some i) (hz : i.zero = some z)
    (hsize : i.size = size) (hby : i.bytes = bytes) (hzs : z.cells.size = size) (hsz : 0 < size)
    (v : Value) (n : Nat) (xs : List Value) (hown : w.ownsRow base e size v n xs) (sa : Option Addr) (m c : Nat) (news : List Value) (hl : news.length = m * size) (h0 : sa = none → m = 0)
    (hnews : ∀ ad, sa = some ad → ∀ j u, news[j]? = some u → w.cell? (ad.add j) = some u) (h1 : ∀ u ∈ news, u.oneCell' = true) (h63 : n + m ≤ maxLen) (hbytes : (n + m) * bytes ≤ 140737488355328) (hbase : base ≤ w.heap.size) :
    ∃ v' w', (Builtin.append_ #[t, t] ty #[v, .slice sa m c]).run P w = .ok v' w' ∧ w'.ownsRow base e size v' (n + m) (xs ++ news) ∧ w.grownBy w' v.ownBlock ∧ (v'.ownBlock = v.ownBlock ∨ v'.ownBlock = some w.heap.size) := by
  cases sa with
  | none =>
    have hm := h0 rfl
    subst hm
    have hn : news = [] := List.eq_nil_of_length_eq_zero (by simpa using hl)
    subst hn
    exact ⟨v, w, run_append_none w base _ _ e i size ht hi c v n xs hown, by simpa using hown, World.grownBy.refl _ _, .inl rfl⟩
  | some ad =>
    obtain ⟨v', w', hr, h2, h3, _, h5⟩ := run_append_own_at (P := P) w base t ty e i z size bytes ht hi hz hsize hby hzs hsz v n xs hown ad m c news hl (hnews ad rfl) h1 h63 hbytes hbase
    exact ⟨v', w', hr, h2, h3, h5⟩
theorem wp_append_src {P : Program} (w : World) {o : Oper} {a : Act} {K : Act → World → Prop} {Q : Exit → Act → World → Prop} (s x : Operand) (t : TypeId)
    (ho : o.op = .call { callee := .builtin .append, args := #[s, x], argTypes := #[t, t] })
    (base : Nat) (e : TypeId) (i : TypeInfo) (z : Value) (size bytes : Nat) (ht : P.underlying t = some (.slice e)) (hi : P.info? e = some i) (hz : i.zero = some z)
    (hsize : i.size = size) (hby : i.bytes = bytes) (hzs : z.cells.size = size) (hsz : 0 < size)
    (v : Value) (n : Nat) (xs : List Value) (hs : a.eval s = v) (hown : w.ownsRow base e size v n xs) (sa : Option Addr) (m c : Nat) (news : List Value) (hx : a.eval x = .slice sa m c) (hl : news.length = m * size) (h0 : sa = none → m = 0)
    (hnews : ∀ ad, sa = some ad → ∀ j u, news[j]? = some u → w.cell? (ad.add j) = some u) (h1 : ∀ u ∈ news, u.oneCell' = true) (h63 : n + m ≤ maxLen) (hbytes : (n + m) * bytes ≤ 140737488355328) (hbase : base ≤ w.heap.size)
    (h : ∀ v' w', w'.ownsRow base e size v' (n + m) (xs ++ news) → w.grownBy w' v.ownBlock → (v'.ownBlock = v.ownBlock ∨ v'.ownBlock = some w.heap.size) → K (a.put o.dst v') w') : o.wp P a w K Q := by
  obtain ⟨v', w', hr, h2, h3, h4⟩ := run_append_src (P := P) w t o.type e base i z size bytes ht hi hz hsize hby hzs hsz v n xs hown sa m c news hl h0 hnews h1 h63 hbytes hbase
  unfold Oper.wp execOp
  simp only [ho, resolve, invoke, builtin, Sem.run_bind, Sem.run_pure, Result.andThen_ok, List.map_toArray, List.map_cons, List.map_nil, hs, hx, hr]
  exact h v' w' h2 h3 h4
theorem wpList_append_src {P : Program} (w : World) {ops : Array Oper} {rest : List Oper} {o : Oper} {a : Act} {Q : Exit → Act → World → Prop} (hgd : o.guard = none) (s x : Operand) (t : TypeId)
    (ho : o.op = .call { callee := .builtin .append, args := #[s, x], argTypes := #[t, t] })
    (base : Nat) (e : TypeId) (i : TypeInfo) (z : Value) (size bytes : Nat) (ht : P.underlying t = some (.slice e)) (hi : P.info? e = some i) (hz : i.zero = some z)
    (hsize : i.size = size) (hby : i.bytes = bytes) (hzs : z.cells.size = size) (hsz : 0 < size)
    (v : Value) (n : Nat) (xs : List Value) (hs : a.eval s = v) (hown : w.ownsRow base e size v n xs) (sa : Option Addr) (m c : Nat) (news : List Value) (hx : a.eval x = .slice sa m c) (hl : news.length = m * size) (h0 : sa = none → m = 0)
    (hnews : ∀ ad, sa = some ad → ∀ j u, news[j]? = some u → w.cell? (ad.add j) = some u) (h1 : ∀ u ∈ news, u.oneCell' = true) (h63 : n + m ≤ maxLen) (hbytes : (n + m) * bytes ≤ 140737488355328) (hbase : base ≤ w.heap.size)
    (h : ∀ v' w', w'.ownsRow base e size v' (n + m) (xs ++ news) → w.grownBy w' v.ownBlock → (v'.ownBlock = v.ownBlock ∨ v'.ownBlock = some w.heap.size) → wpList P ops Q rest (a.put o.dst v') w') : wpList P ops Q (o :: rest) a w :=
  wpList_plain hgd fun _ hK => wp_append_src w s x t ho base e i z size bytes ht hi hz hsize hby hzs hsz v n xs hs hown sa m c news hx hl h0 hnews h1 h63 hbytes hbase fun v' w' h2 h3 h4 => hK _ _ (h v' w' h2 h3 h4)
theorem stepAppSrc {P : Program} (w : World) {ops : Array Oper} {o : Oper} {a : Act} {K : Act → World → Prop} {Q : Exit → Act → World → Prop} {E : Prop} (hgd : o.guard = none) (s x : Operand) (t : TypeId)
    (ho : o.op = .call { callee := .builtin .append, args := #[s, x], argTypes := #[t, t] })
    (base : Nat) (e : TypeId) (i : TypeInfo) (z : Value) (size bytes : Nat) (ht : P.underlying t = some (.slice e)) (hi : P.info? e = some i) (hz : i.zero = some z)
    (hsize : i.size = size) (hby : i.bytes = bytes) (hzs : z.cells.size = size) (hsz : 0 < size)
    (v : Value) (n : Nat) (xs : List Value) (hs : a.eval s = v) (hown : w.ownsRow base e size v n xs) (sa : Option Addr) (m c : Nat) (news : List Value) (hx : a.eval x = .slice sa m c) (hl : news.length = m * size) (h0 : sa = none → m = 0)
    (hnews : ∀ ad, sa = some ad → ∀ j u, news[j]? = some u → w.cell? (ad.add j) = some u) (h1 : ∀ u ∈ news, u.oneCell' = true) (h63 : n + m ≤ maxLen) (hbytes : (n + m) * bytes ≤ 140737488355328) (hbase : base ≤ w.heap.size)
    (h : ∀ v' w', w'.ownsRow base e size v' (n + m) (xs ++ news) → w.grownBy w' v.ownBlock → (v'.ownBlock = v.ownBlock ∨ v'.ownBlock = some w.heap.size) → K (a.put o.dst v') w') :
    if Region.wanted o (yielded ops a.tmps) = true then Oper.wp P o a w K Q else E := by
  have hw : Region.wanted o (yielded ops a.tmps) = true := by simp [Region.wanted, hgd]
  rw [if_pos hw]
  exact wp_append_src w s x t ho base e i z size bytes ht hi hz hsize hby hzs hsz v n xs hs hown sa m c news hx hl h0 hnews h1 h63 hbytes hbase h
/-- a part on the list: a type, where its Labels and its Kids lie; the names around it, and where they lie -/
abbrev WTk := Ty × (Option Addr × Nat) × (Option Addr × Nat) × List ByteArray × (Option Addr × Nat)
def wkOf (t : WTk) : Wk := (t.1, t.2.2.2.1)
def wC (t : WTk) : List Value := [.int .i64 t.1.kind, .int .i64 t.1.so, .string t.1.name, .slice t.2.1.1 t.1.labels.length t.2.1.2, .slice t.2.2.1.1 t.1.kids.length t.2.2.1.2, .slice t.2.2.2.2.1 t.2.2.2.1.length t.2.2.2.2.2]
def wCs (ts : List WTk) : List Value := ts.flatMap wC
theorem wCs_len (ts : List WTk) : (wCs ts).length = ts.length * 6 := by
  unfold wCs
  induction ts with
  | nil => rfl
  | cons p r ih => simp only [List.flatMap_cons, List.length_append, ih, List.length_cons, wC, List.length_nil]; omega
theorem wCs_app (a b : List WTk) : wCs (a ++ b) = wCs a ++ wCs b := by unfold wCs; rw [List.flatMap_append]
theorem wCs_one (ts : List WTk) : ∀ y ∈ wCs ts, y.oneCell' = true := by
  intro y hy
  obtain ⟨p, _, hp⟩ := List.mem_flatMap.1 hy
  simp only [wC, List.mem_cons, List.not_mem_nil, or_false] at hp
  rcases hp with rfl | rfl | rfl | rfl | rfl | rfl <;> rfl
/-- what the parts on the list name lies in memory: of the type below block B, of the names now -/
def TOW (w : World) (W : World) (ts : List WTk) : Prop := ∀ t ∈ ts, TyBw t.1 ∧ LA w w.heap.size t.1.labels t.2.1.1 ∧ (∃ d, KT w w.heap.size d t.1.kids t.2.2.1.1) ∧ LA W W.heap.size t.2.2.2.1 t.2.2.2.2.1 ∧ t.2.2.2.1.length ≤ 60
theorem TOW.keep {w W W' : World} {ts : List WTk} (h : TOW w W ts) (hb : Below W.heap.size W W') : TOW w W' ts := fun t ht =>
  have q := h t ht
  ⟨q.1, q.2.1, q.2.2.1, NAt.mono hb.size (NAt.keep hb q.2.2.2.1), q.2.2.2.2⟩
theorem TOW.app {w W : World} {a b : List WTk} (h1 : TOW w W a) (h2 : TOW w W b) : TOW w W (a ++ b) := fun t ht => (List.mem_append.1 ht).elim (h1 t) (h2 t)
end Go.Proofs.YtnlpnbelkkgghaaDoor
/-
  The contract of duetref.Type: it finds nothing just if Check finds nothing.
-/
namespace Go.Proofs.YtnlpnbelkkgghaaDoor
open Go.RowKit Go.Shelf

theorem kt_at {w : World} {B d : Nat} {ks : List Ty} {ak : Option Addr} (h : KT w B d ks ak) {j : Nat} (hj : j < ks.length) : ∃ b o, ak = some ⟨b, o, none⟩ ∧ b < B ∧ ∃ al cl ak' ck', TyAt w b (o + j * 5) ks[j] al cl ak' ck' ∧ TyBd ks[j] cl ck' ∧ LA w B ks[j].labels al ∧ ∃ d', KT w B d' ks[j].kids ak' := by
  cases d with
  | zero => simp only [KT] at h; subst h; simp at hj
  | succ d =>
    rcases h with h | ⟨b, o, e, hb, hc⟩
    · subst h; simp at hj
    · obtain ⟨al, cl, ak', ck', h1, h2, h3, h4⟩ := hc j hj
      exact ⟨b, o, e, hb, al, cl, ak', ck', h1, h2, h3, d, h4⟩
theorem own_weak {W : World} {b0 b1 : Nat} {e : TypeId} {size : Nat} {v : Value} {n : Nat} {xs : List Value} (h : W.ownsRow b1 e size v n xs) (hle : b0 ≤ b1) : W.ownsRow b0 e size v n xs :=
  ⟨h.1, h.2.imp id fun ⟨g, c, cur, e, hb, r⟩ => ⟨g, c, cur, e, Nat.le_trans hle hb, r⟩⟩
theorem take_oneJ {P : Program} {ops : Array Oper} {md : Region.Mode} {Q : Exit → Act → World → Prop} {S : World → Prop} {fuel : Nat} {listed : Array Bool} {a : Act} {w : World} (i : Nat) (h : AllReadyH P md ops Q S fuel listed a w [i]) (hr : Region.ready md ops listed = [i]) : wpAnyH P md ops Q S (fuel + 1) listed a w := wpAnyH_ready hr (by simp) h
theorem own_grown0 {W W' : World} {base : Nat} {e : TypeId} {size : Nat} {v : Value} {n : Nat} {xs : List Value} {row : Option Nat} (h : W.ownsRow base e size v n xs) (hg : W.grownBy W' row) (hn : ∀ {k}, row ≠ some k) : W'.ownsRow base e size v n xs := by
  have hr : row = none := by
    cases row with
    | none => rfl
    | some k => exact absurd rfl (hn (k := k))
  subst hr
  refine ⟨h.1, h.2.imp id fun ⟨g, c, cur, e1, hb, hc, r⟩ => ⟨g, c, cur, e1, hb, ?_, r⟩⟩
  rw [hg.block g (Array.getElem?_eq_some_iff.1 hc).1 (fun q => by cases q)]; exact hc
theorem part_six (t : Ty) (h : partT t = true) : t.kids.length ≤ 6 := by
  obtain ⟨kd, so, nm, ls, ks⟩ := t
  unfold partT at h
  simp only at h ⊢
  have hL : labsOK ls = true → ls.length ≤ 6 := fun q => by
    unfold labsOK at q
    rw [Bool.and_eq_true] at q
    exact (of_decide_eq_true q.1).2
  split at h
  · simp only [Bool.and_eq_true, decide_eq_true_eq] at h; have := h.2; omega
  split at h
  · simp only [Bool.and_eq_true, decide_eq_true_eq] at h; have := h.2; omega
  split at h
  · simp only [Bool.and_eq_true, decide_eq_true_eq] at h; have := h.2; omega
  split at h
  · simp only [Bool.and_eq_true, decide_eq_true_eq] at h; have := hL h.1.2; omega
  split at h
  · simp only [Bool.and_eq_true, decide_eq_true_eq] at h; have := h.2; omega
  split at h
  · simp only [Bool.and_eq_true, decide_eq_true_eq] at h; have := h.2; omega
  · cases h
theorem containsLR_any (ns : List ByteArray) (x : ByteArray) (aa : Option Addr) (ca : Nat) (w : World) (h : LA w w.heap.size ns aa) (hl : ns.length ≤ 60) :
    Calls Tryd.prog 79 #[.slice aa ns.length ca, .string x] w fun e w' => e = .returned (.bool (hasN ns x)) ∧ w' = w := by
  rcases h with h | ⟨b, o, rfl, _, hc⟩
  · have : ns = [] := by simpa using h
    subst this
    refine (Any.slices_Contains_string_empty Tryd.lays110 aa ca x w).mono fun e w' ⟨h1, h2⟩ => ⟨?_, h2⟩
    rw [h1]; rfl
  · refine (Any.slices_Contains_string Tryd.lays110 b o ns.length ca ns x w (by simp) (by omega) ?_).mono fun e w' ⟨h1, h2⟩ => ⟨?_, h2⟩
    · intro j hj
      rw [hc j (by simpa using hj)]
      simp [List.getD_eq_getElem?_getD, hj]
    · rw [h1]
      congr 2
      rw [List.take_of_length_le (by simp)]
      rw [Bool.eq_iff_iff, Lib.containsS_iff, hasN_iff]
theorem nl_app {ts2 r : List WTk} {ks : List Ty} {N : List ByteArray} {k : Nat} (hm : ts2.map wkOf = ks.map fun q => (q, N)) (hr : ∀ q ∈ r, q.2.2.2.1.length ≤ k) (hN : N.length ≤ k + 1) : ∀ q ∈ ts2 ++ r, q.2.2.2.1.length ≤ k + 1 := by
  intro q hq
  rcases List.mem_append.1 hq with h | h
  · have h1 : wkOf q ∈ ks.map fun q => (q, N) := by rw [← hm]; exact List.mem_map.2 ⟨q, h, rfl⟩
    obtain ⟨z, _, e⟩ := List.mem_map.1 h1
    have e2 : N = q.2.2.2.1 := congrArg Prod.snd e
    rw [← e2]; exact hN
  · exact Nat.le_succ_of_le (hr q h)
theorem la_ownS {W : World} {B n : Nat} {u : Value} {ss : List ByteArray} (hn : ss.length = n) (ho : W.ownsRow B 9 1 u n (ss.map Value.string)) : ∃ a c, u = .slice a n c ∧ LA W W.heap.size ss a := by
  rcases own_cells ho with ⟨rfl, h0, _⟩ | ⟨g, cap, rfl, _, hg, hc⟩
  · refine ⟨none, 0, by rw [h0], .inl ?_⟩
    rw [h0] at hn
    rw [List.length_eq_zero_iff.1 hn]; rfl
  · refine ⟨_, _, rfl, .inr ⟨g, 0, rfl, hg, fun i hi => ?_⟩⟩
    rw [Nat.zero_add]
    exact hc i _ (List.getElem?_eq_getElem hi)
/-- what the answer says -/
def RTPost (t : Ty) (w : World) (e : Ending) (w' : World) : Prop := (∃ z : Int, e = .returned (.int .i64 z) ∧ (z = 0 ↔ chkTy t = 0)) ∧ Below w.heap.size w w'
end Go.Proofs.YtnlpnbelkkgghaaDoor

/-
  The contract of duetkeep.free: does a name stand in a type that no Rec in it binds?
-/
namespace Go.Proofs.YtnlpnbelkkgghaaDoor
open Go.RowKit Go.Shelf

theorem nm_beq (a b : ByteArray) : (a.toList == b.toList) = decide (a = b) := by
  by_cases h : a = b
  · subst h; simp
  · rw [decide_eq_false h, beq_eq_false_iff_ne, ByteArray.toList_eq, ByteArray.toList_eq]
    exact fun e => h (ByteArray.ext (Array.toList_inj.1 e))
end Go.Proofs.YtnlpnbelkkgghaaDoor

/-
  The contract of duetkeep.put: a type in the place of a name.
-/
namespace Go.Proofs.YtnlpnbelkkgghaaDoor
open Go.RowKit Go.Shelf

/-- names in blocks of which P holds -/
def LP (W : World) (P : Nat → Prop) (ls : List ByteArray) (al : Option Addr) : Prop :=
  ls = [] ∨ ∃ b o, al = some ⟨b, o, none⟩ ∧ P b ∧ ∀ i (h : i < ls.length), W.cell? ⟨b, o + i, none⟩ = some (.string ls[i])
/-- types, of so many levels at most, in blocks of which P holds -/
def KP (W : World) (P : Nat → Prop) : Nat → List Ty → Option Addr → Prop
  | 0, ks, _ => ks = []
  | d + 1, ks, ak => ks = [] ∨ ∃ b o, ak = some ⟨b, o, none⟩ ∧ P b ∧ ∀ i (h : i < ks.length), ∃ al cl ak' ck', TyAt W b (o + i * 5) ks[i] al cl ak' ck' ∧ TyBd ks[i] cl ck' ∧ LP W P ks[i].labels al ∧ KP W P d ks[i].kids ak'
theorem LP.keep {W W' : World} {P Q : Nat → Prop} (hb : ∀ b o, P b → W'.cell? ⟨b, o, none⟩ = W.cell? ⟨b, o, none⟩) (hq : ∀ b, P b → Q b) {ls : List ByteArray} {al : Option Addr} (h : LP W P ls al) : LP W' Q ls al :=
  h.imp id fun ⟨b, o, e, hp, hc⟩ => ⟨b, o, e, hq b hp, fun i hi => (hb b _ hp).trans (hc i hi)⟩
theorem KP.keep {W W' : World} {P Q : Nat → Prop} (hb : ∀ b o, P b → W'.cell? ⟨b, o, none⟩ = W.cell? ⟨b, o, none⟩) (hq : ∀ b, P b → Q b) : ∀ {d : Nat} {ks : List Ty} {ak : Option Addr}, KP W P d ks ak → KP W' Q d ks ak
  | 0, _, _, h => h
  | d + 1, ks, ak, h => by
    rcases h with h | ⟨b, o, h1, h2, h3⟩
    · exact .inl h
    · refine .inr ⟨b, o, h1, hq b h2, fun i hi => ?_⟩
      obtain ⟨al, cl, ak', ck', e, f, g, k⟩ := h3 i hi
      exact ⟨al, cl, ak', ck', ⟨(hb b _ h2).trans e.c0, (hb b _ h2).trans e.c1, (hb b _ h2).trans e.c2, (hb b _ h2).trans e.c3, (hb b _ h2).trans e.c4⟩, f, LP.keep hb hq g, KP.keep hb hq k⟩
theorem KP.up {W : World} {P : Nat → Prop} : ∀ {d e : Nat} {ks : List Ty} {ak : Option Addr}, d ≤ e → KP W P d ks ak → KP W P e ks ak
  | 0, 0, _, _, _, h => h
  | 0, e + 1, _, _, _, h => .inl h
  | d + 1, 0, _, _, hd, _ => by omega
  | d + 1, e + 1, ks, ak, hd, h => by
    rcases h with h | ⟨b, o, h1, hl, h⟩
    · exact .inl h
    · exact .inr ⟨b, o, h1, hl, fun i hi => by
        obtain ⟨al, cl, ak', ck', h1, h2, h3, h4⟩ := h i hi
        exact ⟨al, cl, ak', ck', h1, h2, h3, KP.up (by omega) h4⟩⟩
theorem LP.la {W : World} {P : Nat → Prop} {B : Nat} (hq : ∀ b, P b → b < B) {ls : List ByteArray} {al : Option Addr} (h : LP W P ls al) : LA W B ls al := by
  rcases h with rfl | ⟨b, o, e, hp, hc⟩
  · exact .inl rfl
  · exact .inr ⟨b, o, e, hq b hp, fun i hi => by rw [List.length_map] at hi; rw [List.getElem_map]; exact hc i hi⟩
theorem KP.kt {W : World} {P : Nat → Prop} {B : Nat} (hq : ∀ b, P b → b < B) : ∀ {d : Nat} {ks : List Ty} {ak : Option Addr}, KP W P d ks ak → KT W B d ks ak
  | 0, _, _, h => h
  | d + 1, ks, ak, h => by
    rcases h with h | ⟨b, o, h1, h2, h3⟩
    · exact .inl h
    · refine .inr ⟨b, o, h1, hq b h2, fun i hi => ?_⟩
      obtain ⟨al, cl, ak', ck', e, f, g, k⟩ := h3 i hi
      exact ⟨al, cl, ak', ck', e, f, g.la hq, KP.kt hq k⟩
theorem lp_of {W : World} {B : Nat} {P : Nat → Prop} (hq : ∀ b, b < B → P b) {ls : List ByteArray} {al : Option Addr} (h : LA W B ls al) : LP W P ls al := by
  rcases h with h | ⟨b, o, e, hl, hc⟩
  · exact .inl (by simpa using h)
  · exact .inr ⟨b, o, e, hq b hl, fun i hi => by have := hc i (by simpa using hi); rw [List.getElem_map] at this; exact this⟩
theorem kp_of {W : World} {B : Nat} {P : Nat → Prop} (hq : ∀ b, b < B → P b) : ∀ {d : Nat} {ks : List Ty} {ak : Option Addr}, KT W B d ks ak → KP W P d ks ak
  | 0, _, _, h => h
  | d + 1, ks, ak, h => by
    rcases h with h | ⟨b, o, h1, h2, h3⟩
    · exact .inl h
    · refine .inr ⟨b, o, h1, hq b h2, fun i hi => ?_⟩
      obtain ⟨al, cl, ak', ck', e, f, g, k⟩ := h3 i hi
      exact ⟨al, cl, ak', ck', e, f, lp_of hq g, kp_of hq k⟩
/-- types as they lie in a row -/
abbrev TTk := Ty × (Option Addr × Nat) × (Option Addr × Nat)
def tC (t : TTk) : List Value := [.int .i64 t.1.kind, .int .i64 t.1.so, .string t.1.name, .slice t.2.1.1 t.1.labels.length t.2.1.2, .slice t.2.2.1 t.1.kids.length t.2.2.2]
def tCs (ts : List TTk) : List Value := ts.flatMap tC
theorem tCs_snoc (ts : List TTk) (x : TTk) : tCs (ts ++ [x]) = tCs ts ++ tC x := by simp [tCs]
theorem tC_one (t : TTk) : ∀ y ∈ tC t, y.oneCell' = true := by
  intro y hy
  simp only [tC, List.mem_cons, List.not_mem_nil, or_false] at hy
  rcases hy with rfl | rfl | rfl | rfl | rfl <;> rfl
theorem tCs_at : ∀ (ss : List TTk) (i : Nat) (h : i < ss.length) (j : Nat), j < 5 → (tCs ss)[i * 5 + j]? = (tC ss[i])[j]?
  | [], i, h, _, _ => by simp at h
  | s :: ss, 0, _, j, hj => by
    have e : tCs (s :: ss) = tC s ++ tCs ss := rfl
    rw [e, List.getElem?_append_left (by simp [tC]; omega)]
    simp
  | s :: ss, i + 1, h, j, hj => by
    have e : tCs (s :: ss) = tC s ++ tCs ss := rfl
    have hl : (tC s).length = 5 := rfl
    rw [e, List.getElem?_append_right (by rw [hl]; omega), hl, show (i + 1) * 5 + j - 5 = i * 5 + j by omega]
    exact tCs_at ss i (by simpa using h) j hj
def TOK (W : World) (P : Nat → Prop) (ts : List TTk) : Prop := ∀ q ∈ ts, TyBd q.1 q.2.1.2 q.2.2.2 ∧ LP W P q.1.labels q.2.1.1 ∧ ∃ d, KP W P d q.1.kids q.2.2.1
theorem TOK.keep {W W' : World} {P Q : Nat → Prop} {ts : List TTk} (h : TOK W P ts) (hb : ∀ b o, P b → W'.cell? ⟨b, o, none⟩ = W.cell? ⟨b, o, none⟩) (hq : ∀ b, P b → Q b) : TOK W' Q ts :=
  fun q hm => ⟨(h q hm).1, (h q hm).2.1.keep hb hq, by obtain ⟨d, hd⟩ := (h q hm).2.2; exact ⟨d, hd.keep hb hq⟩⟩
theorem tok_depth {W : World} {P : Nat → Prop} : ∀ {ts : List TTk}, TOK W P ts → ∃ D, ∀ q ∈ ts, KP W P D q.1.kids q.2.2.1
  | [], _ => ⟨0, fun q hq => by cases hq⟩
  | x :: ts, h => by
    obtain ⟨D, hD⟩ := tok_depth (ts := ts) fun q hq => h q (.tail _ hq)
    obtain ⟨d, hd⟩ := (h x (.head _)).2.2
    exact ⟨D + d, fun q hq => by
      rcases List.mem_cons.1 hq with rfl | hq
      · exact hd.up (by omega)
      · exact (hD q hq).up (by omega)⟩
theorem kp_row {W : World} {base n : Nat} {v : Value} {ts : List TTk} {P : Nat → Prop} (ho : W.ownsRow base 25 5 v n (tCs ts)) (hn : ts.length = n) (ht : TOK W P ts) (hv : ∀ b, v.ownBlock = some b → P b) : ∃ ak ck d, v = .slice ak n ck ∧ n ≤ ck ∧ ck ≤ 9223372036854775807 ∧ KP W P d (ts.map fun q => q.1) ak := by
  obtain ⟨D, hD⟩ := tok_depth ht
  rcases ho.2 with ⟨rfl, h0⟩ | ⟨g, cap, cur, rfl, _, hc, h1, h2, _, _⟩
  · have : ts = [] := List.eq_nil_of_length_eq_zero (by omega)
    subst this
    exact ⟨none, 0, 0, by rw [h0], by omega, by omega, rfl⟩
  · unfold maxLen at h2
    obtain ⟨g', c', e, _, _, hcell⟩ := (own_cells ho).resolve_left (fun q => by cases q.1)
    injection e with e1 _ e3
    injection e1 with e1
    injection e1 with e1
    subst e1 e3
    refine ⟨_, cap, D + 1, rfl, h1, by omega, .inr ⟨g, 0, rfl, hv g rfl, fun i hi => ?_⟩⟩
    have hi' : i < ts.length := by simpa using hi
    have ge : (ts.map fun q => q.1)[i] = ts[i].1 := by simp
    rw [ge]
    have hm := List.getElem_mem hi'
    have hcl : ∀ j y, j < 5 → (tC ts[i])[j]? = some y → W.cell? ⟨g, 0 + i * 5 + j, none⟩ = some y := fun j y hj hy => by
      rw [Nat.zero_add]
      exact hcell _ _ ((tCs_at ts i hi' j hj).trans hy)
    exact ⟨ts[i].2.1.1, ts[i].2.1.2, ts[i].2.2.1, ts[i].2.2.2, ⟨hcl 0 _ (by omega) rfl, hcl 1 _ (by omega) rfl, hcl 2 _ (by omega) rfl, hcl 3 _ (by omega) rfl, hcl 4 _ (by omega) rfl⟩, (ht _ hm).1, (ht _ hm).2.1, hD _ hm⟩
theorem infoTy : (Tryd.prog.info? 25).map (fun i => (i.zero, i.size, i.bytes)) = some (some (.agg #[.int .i64 0, .int .i64 0, .string ⟨#[]⟩, .slice none 0 0, .slice none 0 0]), 5, 80) := by kernel_rfl
/-- what put answers -/
def PTPost (x c : ByteArray) (s t : Ty) (B : Nat) (w : World) (e : Ending) (w' : World) : Prop :=
  ((capT x c t = true ∧ ∃ t9 al cl ak ck, e = .returned (.tuple #[tyVal t9 al cl ak ck, .bool false])) ∨ (capT x c t = false ∧ ∃ al cl ak ck d, e = .returned (.tuple #[tyVal (putT x s t) al cl ak ck, .bool true]) ∧ TyBd (putT x s t) cl ck ∧ LP w' (fun b => b < B ∨ (w.heap.size ≤ b ∧ b < w'.heap.size)) (putT x s t).labels al ∧ KP w' (fun b => b < B ∨ (w.heap.size ≤ b ∧ b < w'.heap.size)) d (putT x s t).kids ak)) ∧ Below w.heap.size w w'
/-- the boxes of put: both types, the result, and what is made -/
structure PX (w : World) (t : Ty) (al : Option Addr) (cl : Nat) (ak : Option Addr) (ck : Nat) (s : Ty) (sal : Option Addr) (scl : Nat) (sak : Option Addr) (sck : Nat) (bo : Nat) (u : Value) (W : World) : Prop where
  x : TyAt W w.heap.size 0 t al cl ak ck
  y : TyAt W (w.heap.size + 1) 0 s sal scl sak sck
  z : ∀ j, j < 5 → (∃ v, W.cell? ⟨w.heap.size + 1 + 1, j, none⟩ = some v) ∧ W.frozen? ⟨w.heap.size + 1 + 1, j, none⟩ = false
  o0 : W.cell? ⟨bo, 0, none⟩ = some (.int .i64 t.kind)
  o1 : W.cell? ⟨bo, 1, none⟩ = some (.int .i64 t.so)
  o2 : W.cell? ⟨bo, 2, none⟩ = some (.string t.name)
  o3 : W.cell? ⟨bo, 3, none⟩ = some (.slice al t.labels.length cl)
  o4 : W.cell? ⟨bo, 4, none⟩ = some u
  fo : W.frozen? ⟨bo, 4, none⟩ = false
  lo : w.heap.size + 1 + 1 < bo
  lt : bo < W.heap.size
  bl : Below w.heap.size w W
theorem PX.keep {w : World} {t : Ty} {al : Option Addr} {cl : Nat} {ak : Option Addr} {ck : Nat} {s : Ty} {sal : Option Addr} {scl : Nat} {sak : Option Addr} {sck : Nat} {bo : Nat} {u : Value} {W W' : World} (h : PX w t al cl ak ck s sal scl sak sck bo u W) (hb : Below W.heap.size W W') : PX w t al cl ak ck s sal scl sak sck bo u W' := by
  have h1 := h.lo
  have h2 := h.lt
  have hc : ∀ b o, b ≤ bo → W'.cell? ⟨b, o, none⟩ = W.cell? ⟨b, o, none⟩ := fun b o hb' => hb.cell (p := ⟨b, o, none⟩) (by show b < _; omega)
  have hf : ∀ b o, b ≤ bo → W'.frozen? ⟨b, o, none⟩ = W.frozen? ⟨b, o, none⟩ := fun b o hb' => hb.frozen (p := ⟨b, o, none⟩) (by show b < _; omega)
  exact ⟨h.x.keep hb (by omega), h.y.keep hb (by omega), fun j hj => ⟨by obtain ⟨v, hv⟩ := (h.z j hj).1; exact ⟨v, (hc _ _ (by omega)).trans hv⟩, (hf _ _ (by omega)).trans (h.z j hj).2⟩, (hc _ _ (by omega)).trans h.o0, (hc _ _ (by omega)).trans h.o1, (hc _ _ (by omega)).trans h.o2, (hc _ _ (by omega)).trans h.o3, (hc _ _ (by omega)).trans h.o4, (hf _ _ (by omega)).trans h.fo, h1, Nat.lt_of_lt_of_le h2 hb.size, h.bl.trans (hb.mono h.bl.size)⟩
theorem PX.put {w : World} {t : Ty} {al : Option Addr} {cl : Nat} {ak : Option Addr} {ck : Nat} {s : Ty} {sal : Option Addr} {scl : Nat} {sak : Option Addr} {sck : Nat} {bo : Nat} {u v : Value} {W W' : World} (h : PX w t al cl ak ck s sal scl sak sck bo u W) (hg : W.grownBy W' u.ownBlock) (hu : ∀ b, u.ownBlock = some b → bo < b) : PX w t al cl ak ck s sal scl sak sck bo v (W'.setCell ⟨bo, 4, none⟩ v) := by
  have h1 := h.lo
  have h2 := h.lt
  have hk : ∀ b, b ≤ bo → W'.heap[b]? = W.heap[b]? := fun b hb => hg.block b (by omega) (fun e => by have := hu b e.symm; omega)
  have hc : ∀ b o, b ≤ bo → W'.cell? ⟨b, o, none⟩ = W.cell? ⟨b, o, none⟩ := fun b o hb => World.cell?_of_block (a := ⟨b, o, none⟩) (hk b hb)
  have hf : ∀ b o, b ≤ bo → (W'.setCell ⟨bo, 4, none⟩ v).frozen? ⟨b, o, none⟩ = W.frozen? ⟨b, o, none⟩ := fun b o hb => (World.frozen?_setCell _ _ _ _).trans (World.frozen?_of_block (a := ⟨b, o, none⟩) (hk b hb))
  have hs : ∀ b o, b ≤ bo → (b ≠ bo ∨ o ≠ 4) → (W'.setCell ⟨bo, 4, none⟩ v).cell? ⟨b, o, none⟩ = W.cell? ⟨b, o, none⟩ := fun b o hb hn => (World.cell?_setCell_other _ _ _ _ (by intro e; injection e with e1 e2; rcases hn with q | q; exact q e1.symm; exact q e2.symm)).trans (hc b o hb)
  have hsT : ∀ b, b < bo → ∀ {q : Ty} {a1 c1 a2 c2}, TyAt W b 0 q a1 c1 a2 c2 → TyAt (W'.setCell ⟨bo, 4, none⟩ v) b 0 q a1 c1 a2 c2 := fun b hb _ _ _ _ _ e => ⟨(hs b _ (by omega) (.inl (by omega))).trans e.c0, (hs b _ (by omega) (.inl (by omega))).trans e.c1, (hs b _ (by omega) (.inl (by omega))).trans e.c2, (hs b _ (by omega) (.inl (by omega))).trans e.c3, (hs b _ (by omega) (.inl (by omega))).trans e.c4⟩
  have hsz := hg.size
  refine ⟨hsT _ (by omega) h.x, hsT _ (by omega) h.y, fun j hj => ⟨by obtain ⟨v, hv⟩ := (h.z j hj).1; exact ⟨v, (hs _ _ (by omega) (.inl (by omega))).trans hv⟩, (hf _ _ (by omega)).trans (h.z j hj).2⟩, (hs _ _ (by omega) (.inr (by omega))).trans h.o0, (hs _ _ (by omega) (.inr (by omega))).trans h.o1, (hs _ _ (by omega) (.inr (by omega))).trans h.o2, (hs _ _ (by omega) (.inr (by omega))).trans h.o3, World.cell?_setCell_same _ _ _ ((hc _ _ (by omega)).trans h.o4), (hf _ _ (by omega)).trans h.fo, h1, by simp; omega, ?_⟩
  refine ⟨hg.os.trans h.bl.os, hg.tape.trans h.bl.tape, hg.output.trans h.bl.output, by simp; have := h.bl.size; omega, fun b hb => ?_⟩
  rw [Below.heap_setCell _ _ _ b (fun e => by have e : b = bo := e; omega), hk b (by omega)]
  exact h.bl.block b hb
/-- the store of what is handed back -/
theorem px_st {w : World} {t : Ty} {al : Option Addr} {cl : Nat} {ak : Option Addr} {ck : Nat} {s : Ty} {sal : Option Addr} {scl : Nat} {sak : Option Addr} {sck : Nat} {bo : Nat} {u : Value} {W : World} (h : PX w t al cl ak ck s sal scl sak sck bo u W) (q : Ty) (a1 : Option Addr) (c1 : Nat) (a2 : Option Addr) (c2 : Nat) :
    TyAt (st5 W (w.heap.size + 1 + 1) 0 (.int .i64 q.kind) (.int .i64 q.so) (.string q.name) (.slice a1 q.labels.length c1) (.slice a2 q.kids.length c2)) (w.heap.size + 1 + 1) 0 q a1 c1 a2 c2 ∧ Below w.heap.size w (st5 W (w.heap.size + 1 + 1) 0 (.int .i64 q.kind) (.int .i64 q.so) (.string q.name) (.slice a1 q.labels.length c1) (.slice a2 q.kids.length c2)) :=
  ⟨st5_at W _ 0 q a1 c1 a2 c2 (fun j hj => by rw [Nat.zero_add]; exact (h.z j hj).1), st5_below _ 0 _ _ _ _ _ h.bl (by omega)⟩
end Go.Proofs.YtnlpnbelkkgghaaDoor
