/-
  The contracts of comply.Stuck and comply.Ends, for every two types.
-/
import Derived.Test.YtnlpnbelkkgghaaDoorVw
import Derived.Test.YtnlpnbelkkgghaaDoorJb
namespace Go.Proofs.YtnlpnbelkkgghaaDoor
open Go.RowKit Go.Shelf

def SKPost (s t : Ty) (w : World) (e : Ending) (w' : World) : Prop :=
  ((chkTy s ≠ 0 ∧ e = .returned (.tuple #[.slice none 0 0, .int .i64 (chkTy s)])) ∨ (chkTy s = 0 ∧ chkTy t ≠ 0 ∧ e = .returned (.tuple #[.slice none 0 0, .int .i64 (chkTy t)])) ∨
    (∃ g h, OFG s g ∧ OFG t h ∧ ((∃ k arr, srC g h = (some k, arr) ∧ ∃ aw cw, e = .returned (.tuple #[.slice aw (wayGA arr k).length cw, .int .i64 0]) ∧ LA w' w'.heap.size (wayGA arr k).reverse aw) ∨ (∃ arr, srC g h = (none, arr) ∧ e = .returned (.tuple #[.slice none 0 0, .int .i64 8]))))) ∧ Below w.heap.size w w'
def EDPost (s t : Ty) (w : World) (e : Ending) (w' : World) : Prop :=
  ((chkTy s ≠ 0 ∧ e = .returned (.tuple #[.int .i64 0, .int .i64 (chkTy s)])) ∨ (chkTy s = 0 ∧ chkTy t ≠ 0 ∧ e = .returned (.tuple #[.int .i64 0, .int .i64 (chkTy t)])) ∨
    (∃ g h, OFG s g ∧ OFG t h ∧ ((∃ k arr, srC g h = (some k, arr) ∧ e = .returned (.tuple #[.int .i64 0, .int .i64 7])) ∨ (∃ arr, srC g h = (none, arr) ∧ (((enW g arr arr.length).1 = true ∧ e = .returned (.tuple #[.int .i64 ((enW g arr arr.length).2 : Int), .int .i64 0])) ∨ ((enW g arr arr.length).1 = false ∧ e = .returned (.tuple #[.int .i64 0, .int .i64 8]))))))) ∧ Below w.heap.size w w'
set_option maxRecDepth 100000 in
set_option maxHeartbeats 4000000 in
theorem stuck_any (ds dt : Nat) (s t : Ty) (sal : Option Addr) (scl : Nat) (sak : Option Addr) (sck : Nat) (al : Option Addr) (cl : Nat) (ak : Option Addr) (ck : Nat) (w : World) (hs1 : TyBd s scl sck) (hs2 : LA w w.heap.size s.labels sal) (hs3 : KT w w.heap.size ds s.kids sak) (ht1 : TyBd t cl ck) (ht2 : LA w w.heap.size t.labels al) (ht3 : KT w w.heap.size dt t.kids ak) :
    Calls Tryd.prog 20 #[tyVal s sal scl sak sck, tyVal t al cl ak ck] w (SKPost s t w) := by
  unfold SKPost
  have hA : Below w.heap.size w ((w.alloc (.cells #[.int .i64 s.kind, .int .i64 s.so, .string s.name, .slice sal s.labels.length scl, .slice sak s.kids.length sck] 25)).alloc (.cells #[.int .i64 t.kind, .int .i64 t.so, .string t.name, .slice al t.labels.length cl, .slice ak t.kids.length ck] 25)) := ((Below.refl _ _).alloc (Nat.le_refl _) _).alloc (by simp) _
  have cG := outcomeOf_any ds dt s t sal scl sak sck al cl ak ck ((w.alloc (.cells #[.int .i64 s.kind, .int .i64 s.so, .string s.name, .slice sal s.labels.length scl, .slice sak s.kids.length sck] 25)).alloc (.cells #[.int .i64 t.kind, .int .i64 t.so, .string t.name, .slice al t.labels.length cl, .slice ak t.kids.length ck] 25)) hs1 ((hs2.keep hA).mono hA.size) ((hs3.keep hA).mono hA.size) ht1 ((ht2.keep hA).mono hA.size) ((ht3.keep hA).mono hA.size)
  have HA := hideK hA
  simp only [tyVal] at cG ⊢
  unfold OOPost at cG
  clear hs1 hs2 hs3 ht1 ht2 ht3 hA
  go_enter Tryd.func20, Tryd.ntmps20
  go_wp2_with fail
  refine cG.mono ?_
  generalize ((w.alloc (.cells #[.int .i64 s.kind, .int .i64 s.so, .string s.name, .slice sal s.labels.length scl, .slice sak s.kids.length sck] 25)).alloc (.cells #[.int .i64 t.kind, .int .i64 t.so, .string t.name, .slice al t.labels.length cl, .slice ak t.kids.length ck] 25)) = W0 at *
  rintro e w1 ⟨hor, hb1⟩
  have HB1 := hideK (HA.out.trans (hb1.mono HA.out.size))
  have HB2 := hideK (fun o : Obj => show Below w.heap.size w (w1.alloc o) from HB1.out.alloc HB1.out.size o)
  clear hb1 cG
  rcases hor with ⟨hz, rfl⟩ | ⟨hz0, hz, rfl⟩ | ⟨g, h, hof, hof2, ⟨k, arr, hsr, aw, cw, rfl, hla⟩ | ⟨arr, hsr, aw, cw, rfl⟩⟩
  · have hzb : (chkTy s != 0) = true := by simpa using hz
    have HZ := hideK hz
    clear hz
    go_wp2_with fail
    go_ret2
    exact ⟨.inl ⟨HZ.out, rfl⟩, HB2.out _⟩
  · have hzb : (chkTy t != 0) = true := by simpa using hz
    have HZ := hideK hz
    have HZ0 := hideK hz0
    clear hz hz0
    go_wp2_with fail
    go_ret2
    exact ⟨.inr (.inl ⟨HZ0.out, HZ.out, rfl⟩), HB2.out _⟩
  · have HOF := hideK hof
    have HOF2 := hideK hof2
    have HSR := hideK hsr
    have HLA := hideK (fun o : Obj => show LA (w1.alloc o) (w1.alloc o).heap.size (wayGA arr k).reverse aw from (hla.keep ((Below.refl _ _).alloc (Nat.le_refl _) o)).mono (by simp))
    clear hof hof2 hsr hla
    go_wp2_with fail
    go_ret2
    exact ⟨.inr (.inr ⟨g, h, HOF.out, HOF2.out, .inl ⟨k, arr, HSR.out, aw, cw, rfl, HLA.out _⟩⟩), HB2.out _⟩
  · have HOF := hideK hof
    have HOF2 := hideK hof2
    have HSR := hideK hsr
    clear hof hof2 hsr
    go_wp2_with fail
    go_ret2
    exact ⟨.inr (.inr ⟨g, h, HOF.out, HOF2.out, .inr ⟨arr, HSR.out, rfl⟩⟩), HB2.out _⟩
set_option maxRecDepth 100000 in
set_option maxHeartbeats 4000000 in
theorem ends_any (ds dt : Nat) (s t : Ty) (sal : Option Addr) (scl : Nat) (sak : Option Addr) (sck : Nat) (al : Option Addr) (cl : Nat) (ak : Option Addr) (ck : Nat) (w : World) (hs1 : TyBd s scl sck) (hs2 : LA w w.heap.size s.labels sal) (hs3 : KT w w.heap.size ds s.kids sak) (ht1 : TyBd t cl ck) (ht2 : LA w w.heap.size t.labels al) (ht3 : KT w w.heap.size dt t.kids ak) :
    Calls Tryd.prog 18 #[tyVal s sal scl sak sck, tyVal t al cl ak ck] w (EDPost s t w) := by
  unfold EDPost
  have hA : Below w.heap.size w ((w.alloc (.cells #[.int .i64 s.kind, .int .i64 s.so, .string s.name, .slice sal s.labels.length scl, .slice sak s.kids.length sck] 25)).alloc (.cells #[.int .i64 t.kind, .int .i64 t.so, .string t.name, .slice al t.labels.length cl, .slice ak t.kids.length ck] 25)) := ((Below.refl _ _).alloc (Nat.le_refl _) _).alloc (by simp) _
  have cG := outcomeOf_any ds dt s t sal scl sak sck al cl ak ck ((w.alloc (.cells #[.int .i64 s.kind, .int .i64 s.so, .string s.name, .slice sal s.labels.length scl, .slice sak s.kids.length sck] 25)).alloc (.cells #[.int .i64 t.kind, .int .i64 t.so, .string t.name, .slice al t.labels.length cl, .slice ak t.kids.length ck] 25)) hs1 ((hs2.keep hA).mono hA.size) ((hs3.keep hA).mono hA.size) ht1 ((ht2.keep hA).mono hA.size) ((ht3.keep hA).mono hA.size)
  have HA := hideK hA
  simp only [tyVal] at cG ⊢
  unfold OOPost at cG
  clear hs1 hs2 hs3 ht1 ht2 ht3 hA
  go_enter Tryd.func18, Tryd.ntmps18
  go_wp2_with fail
  refine cG.mono ?_
  generalize ((w.alloc (.cells #[.int .i64 s.kind, .int .i64 s.so, .string s.name, .slice sal s.labels.length scl, .slice sak s.kids.length sck] 25)).alloc (.cells #[.int .i64 t.kind, .int .i64 t.so, .string t.name, .slice al t.labels.length cl, .slice ak t.kids.length ck] 25)) = W0 at *
  rintro e w1 ⟨hor, hb1⟩
  have HB1 := hideK (HA.out.trans (hb1.mono HA.out.size))
  have HB2 := hideK (fun o : Obj => show Below w.heap.size w (w1.alloc o) from HB1.out.alloc HB1.out.size o)
  clear hb1 cG
  rcases hor with ⟨hz, rfl⟩ | ⟨hz0, hz, rfl⟩ | ⟨g, h, hof, hof2, ⟨k, arr, hsr, aw, cw, rfl, hla⟩ | ⟨arr, hsr, aw, cw, rfl⟩⟩
  · have hzb : (chkTy s != 0) = true := by simpa using hz
    have HZ := hideK hz
    clear hz
    go_wp2_with fail
    go_ret2
    exact ⟨.inl ⟨HZ.out, rfl⟩, HB2.out _⟩
  · have hzb : (chkTy t != 0) = true := by simpa using hz
    have HZ := hideK hz
    have HZ0 := hideK hz0
    clear hz hz0
    go_wp2_with fail
    go_ret2
    exact ⟨.inr (.inl ⟨HZ0.out, HZ.out, rfl⟩), HB2.out _⟩
  · have HOF := hideK hof
    have HOF2 := hideK hof2
    have HSR := hideK hsr
    clear hof hof2 hsr hla
    go_wp2_with fail
    go_ret2
    exact ⟨.inr (.inr ⟨g, h, HOF.out, HOF2.out, .inl ⟨k, arr, HSR.out, rfl⟩⟩), HB2.out _⟩
  · have HOF := hideK hof
    have HOF2 := hideK hof2
    have HSR := hideK hsr
    clear hof hof2 hsr
    generalize hew : enW g arr arr.length = ew at *
    obtain ⟨e1, e2⟩ := ew
    have HEW := hideK hew
    clear hew
    cases e1 with
    | true =>
      go_wp2_with fail
      go_ret2
      exact ⟨.inr (.inr ⟨g, h, HOF.out, HOF2.out, .inr ⟨arr, HSR.out, .inl (by rw [HEW.out]; exact ⟨rfl, rfl⟩)⟩⟩), HB2.out _⟩
    | false =>
      go_wp2_with fail
      go_ret2
      exact ⟨.inr (.inr ⟨g, h, HOF.out, HOF2.out, .inr ⟨arr, HSR.out, .inr (by rw [HEW.out]; exact ⟨rfl, rfl⟩)⟩⟩), HB2.out _⟩
end Go.Proofs.YtnlpnbelkkgghaaDoor
/-
  The law of duetkeep.BelowOrder: whatever types are handed in it answers true.
-/
namespace Go.Proofs.YtnlpnbelkkgghaaDoor
open Go.RowKit Go.Shelf

theorem cls_ex {g : List Nd} (hs : shutG g) : ∃ c, CLS g c := by
  have : ∀ n k c, patG g k c → g.length - cnt c ≤ n → ∃ c, CLS g c := by
    intro n
    induction n with
    | zero =>
      intro k c hp hn
      by_cases he : (splitG g c).1.length = cnt c
      · exact ⟨_, cls_done hs hp he⟩
      · have := cls_more hs hp he; omega
    | succ n ih =>
      intro k c hp hn
      by_cases he : (splitG g c).1.length = cnt c
      · exact ⟨_, cls_done hs hp he⟩
      · have h1 := cls_more hs hp he
        have h2 := (split_inv g c).cn
        exact ih (k + 1) (splitG g c).2 (pat_split hs hp) (by omega)
  exact this _ 0 _ (pat_zero g) (Nat.le_refl _)
theorem OFG_ex {t : Ty} (h : chkTy t = 0) : ∃ g, OFG t g := by
  have hg := lay_gn h
  obtain ⟨c, hc⟩ : ∃ c, CLS (layP t [] 0).2 c := cls_ex hg.shut
  exact ⟨_, ⟨h, c, hc, rfl⟩⟩
theorem end_bd : TyBd endT 0 0 := ⟨by decide, fun l hl => (by cases hl), by decide, by decide, by decide, by decide⟩
end Go.Proofs.YtnlpnbelkkgghaaDoor

/-
  Plain mathematics: a type in the place of a name: what that does, and what Check says of it; BEKIC and MILNER of types.
-/
namespace Go.Proofs.YtnlpnbelkkgghaaDoor

/-- s in the place of the name x -/
def putT (x : ByteArray) (s : Ty) : Ty → Ty
  | ⟨kd, so, nm, ls, ks⟩ => if kd = 9 ∧ nm = x then s else if kd = 8 ∧ nm = x then ⟨kd, so, nm, ls, ks⟩ else ⟨kd, so, nm, ls, ks.map (putT x s)⟩
/-- does a name stand in it that no Rec in it binds? -/
def frT (x : ByteArray) : Ty → Bool
  | ⟨kd, _, nm, _, ks⟩ => if kd = 9 then decide (nm = x) else if kd = 8 ∧ nm = x then false else (ks.map fun q => frT x q).any id
theorem frT_var (x : ByteArray) (t : Ty) (h : t.kind = 9) : frT x t = decide (t.name = x) := by cases t; rw [frT, if_pos h]
theorem frT_rec (x : ByteArray) (t : Ty) (h : t.kind = 8 ∧ t.name = x) : frT x t = false := by
  cases t
  rw [frT, if_neg (by have h8 := h.1; simp only at h8; omega), if_pos h]
theorem frT_else (x : ByteArray) (t : Ty) (h9 : t.kind ≠ 9) (h8 : ¬ (t.kind = 8 ∧ t.name = x)) : frT x t = t.kids.any (frT x) := by
  cases t
  rw [frT, if_neg h9, if_neg h8, List.any_map]
  rfl
theorem any_false {α : Type} {l : List α} {p : α → Bool} (h : l.any p = false) : ∀ a ∈ l, p a = false := by
  intro a ha
  cases hp : p a with
  | false => rfl
  | true => rw [List.any_eq_true.2 ⟨a, ha, hp⟩] at h; cases h
/-- names that are not free are of no account -/
theorem fr_den (x : ByteArray) : ∀ t : Ty, wfT t → frT x t = false → ∀ r d, den t (upD r x d) = den t r := by
  apply tyInd
  intro t ih hw hf r d
  obtain ⟨hp, hk⟩ := (wfT_eq t).1 hw
  by_cases h9 : t.kind = 9
  · rw [frT_var x t h9] at hf
    rw [den_var t _ h9, den_var t _ h9]
    unfold upD
    rw [if_neg (by simpa using hf)]
  by_cases h8 : t.kind = 8
  · obtain ⟨q, hq⟩ := part_rec hp h8
    have hm : q ∈ t.kids := by rw [hq]; exact .head _
    rw [den_rec t _ h8 q hq, den_rec t _ h8 q hq]
    have e : (fun f => den q (upD (upD r x d) t.name f)) = fun f => den q (upD r t.name f) := funext fun f => by
      by_cases hn : t.name = x
      · congr 1
        funext y
        unfold upD
        by_cases hy : y = t.name
        · rw [if_pos hy, if_pos hy]
        · rw [if_neg hy, if_neg hy, if_neg (by rw [← hn]; exact hy)]
      · rw [frT_else x t h9 (fun h => hn h.2)] at hf
        have hfq := any_false hf q hm
        have e2 : upD (upD r x d) t.name f = upD (upD r t.name f) x d := by
          funext y
          unfold upD
          by_cases hy : y = t.name
          · rw [if_pos hy, if_pos hy, if_neg (by rw [hy]; exact hn)]
          · rw [if_neg hy, if_neg hy]
        rw [e2]
        exact ih q hm (hk q hm) hfq _ d
    rw [e]
  · rw [frT_else x t h9 (fun h => h8 h.1)] at hf
    rw [den_node t _ h9 h8, den_node t _ h9 h8]
    congr 1
    exact List.map_congr_left fun q hq => ih q hq (hk q hq) (any_false hf q hq) r d
/-! ### What Check says -/
theorem part_kids {t : Ty} (ks : List Ty) (hl : ks.length = t.kids.length) (h : partT t = true) : partT ⟨t.kind, t.so, t.name, t.labels, ks⟩ = true := by
  rw [← h]
  unfold partT
  simp only [hl]
theorem chkTL_or (ar : List ByteArray) (ks : List Ty) : ∀ (a : Int × Nat), a.1 = 0 → (∀ k ∈ ks, ∀ c, (chkT k ar c).1 = 0 ∨ ((chkT k ar c).1 = 2 ∧ 60 < c + sizeT k)) → (chkTL ar ks a).1 = 0 ∨ ((chkTL ar ks a).1 = 2 ∧ 60 < a.2 + (ks.map sizeT).sum) := by
  induction ks with
  | nil => intro a h _; exact .inl h
  | cons k ks ih =>
    intro a h hk
    rw [chkTL_cons, if_neg (by simpa using h)]
    simp only [List.map_cons, List.sum_cons]
    rcases hk k (.head _) a.2 with h1 | ⟨h1, h2⟩
    · have h3 := (chkT_all k ar a.2 h1).2
      rcases ih _ h1 (fun q hq => hk q (.tail _ hq)) with h4 | ⟨h4, h5⟩
      · exact .inl h4
      · exact .inr ⟨h4, by rw [h3] at h5; omega⟩
    · rw [chkTL_bad _ _ _ (by rw [h1]; decide)]
      exact .inr ⟨h1, by omega⟩
theorem chkT_or : ∀ t : Ty, ∀ ar c, gdT t → clT t ar → sizeT t ≤ 65536 → (chkT t ar c).1 = 0 ∨ ((chkT t ar c).1 = 2 ∧ 60 < c + sizeT t) := by
  apply tyInd
  intro t ih ar c hg hc hs
  obtain ⟨hp, hi, hk⟩ := (gdT_eq t).1 hg
  obtain ⟨c1, c2⟩ := (clT_eq t ar).1 hc
  have h1 := sizeT_eq t
  rw [chkT_eq]
  by_cases h60 : 60 < c + 1
  · rw [if_pos h60]; exact .inr ⟨rfl, by omega⟩
  rw [if_neg h60, if_neg (by rw [hp]; decide), if_neg (by rintro ⟨h9, hh⟩; rw [(hasN_iff _ _).2 (c1 h9)] at hh; cases hh), if_neg (by rintro ⟨h8, hh⟩; rw [idle_idT t (gdT_wf t hg) 65536 hs, hi h8] at hh; cases hh)]
  rcases chkTL_or (if t.kind = 8 then ar ++ [t.name] else ar) t.kids (0, c + 1) rfl (fun k hm c' => ih k hm _ c' (hk k hm) (c2 k hm) (by have := sizeT_kid hm; omega)) with h | ⟨h, h2⟩
  · exact .inl h
  · exact .inr ⟨h, by simp only at h2; omega⟩
/-- what Check lets by, and what is too large -/
theorem chkTy_or {t : Ty} (hg : gdT t) (hc : clT t []) (hs : sizeT t ≤ 65536) : chkTy t = 0 ∨ (chkTy t = 2 ∧ 60 < sizeT t) := by
  have := chkT_or t [] 0 hg hc hs
  rw [Nat.zero_add] at this
  exact this
/-! ### The two laws -/
def varT (x : ByteArray) : Ty := ⟨9, 0, x, [], []⟩
def recT (x : ByteArray) (b : Ty) : Ty := ⟨8, 0, x, [], [b]⟩
theorem var_gd {x : ByteArray} (h : isVr x.data.toList = true) : gdT (varT x) := (gdT_eq _).2 ⟨by unfold partT varT; simp [h], fun h8 => absurd (show (9 : Int) = 8 from h8) (by decide), fun k hk => (by cases hk)⟩
end Go.Proofs.YtnlpnbelkkgghaaDoor

/-
  comply.Ends of !int.end and ?int.end is 1: their graphs, worked out.
-/
namespace Go.Proofs.YtnlpnbelkkgghaaDoor
open Go.RowKit Go.Shelf

def sndT : Ty := ⟨2, 1, ⟨#[]⟩, [], [endT]⟩
def rcvT : Ty := ⟨3, 1, ⟨#[]⟩, [], [endT]⟩
def sndG : List Nd := [⟨2, 1, [], [1]⟩, ⟨1, 0, [], []⟩]
def rcvG : List Nd := [⟨3, 1, [], [1]⟩, ⟨1, 0, [], []⟩]
theorem end_gd : gdT endT := by
  rw [gdT_eq]
  refine ⟨?_, fun h => ?_, fun k hk => ?_⟩
  · unfold partT endT; simp
  · exact absurd h (by decide)
  · cases hk
theorem end_sz : sizeT endT = 1 := by rw [sizeT_eq]; rfl
theorem one_chk (k : Int) (hk : k = 2 ∨ k = 3) : chkTy ⟨k, 1, ⟨#[]⟩, [], [endT]⟩ = 0 := by
  have hg : gdT ⟨k, 1, ⟨#[]⟩, [], [endT]⟩ := by
    rw [gdT_eq]
    refine ⟨?_, fun h => ?_, fun q hq => ?_⟩
    · unfold partT
      rcases hk with rfl | rfl <;> simp
    · simp only at h; omega
    · obtain rfl := List.mem_singleton.1 hq
      exact end_gd
  have hc : clT ⟨k, 1, ⟨#[]⟩, [], [endT]⟩ [] := by
    rw [clT_eq]
    refine ⟨fun h => ?_, fun q hq => ?_⟩
    · simp only at h; omega
    · obtain rfl := List.mem_singleton.1 hq
      rw [clT_eq]
      exact ⟨fun h => absurd h (by decide), fun q hq => by cases hq⟩
  have hs : sizeT ⟨k, 1, ⟨#[]⟩, [], [endT]⟩ = 2 := by
    rw [sizeT_eq]
    simp only [List.map_cons, List.map_nil, end_sz]
    rfl
  rcases chkTy_or hg hc (by rw [hs]; decide) with q | q
  · exact q
  · rw [hs] at q; omega
theorem snd_chk : chkTy sndT = 0 := one_chk 2 (.inl rfl)
theorem rcv_chk : chkTy rcvT = 0 := one_chk 3 (.inr rfl)
theorem one_lay (k : Int) (hk : k = 2 ∨ k = 3) : layP ⟨k, 1, ⟨#[]⟩, [], [endT]⟩ [] 0 = (0, [⟨k, 1, [], [1]⟩, ⟨1, 0, [], []⟩]) := by
  have e1 : layP endT [] (1 + 0) = (1, [⟨1, 0, [], []⟩]) := by
    rw [layP_node endT [] _ (by decide) (by decide)]; rfl
  have e2 : layL [] (0 + 1) [endT] = ([1], [⟨1, 0, [], []⟩]) := by
    unfold layL
    rw [List.foldl_cons, List.foldl_nil]
    show ([] ++ [(layP endT [] (1 + 0)).1], [] ++ (layP endT [] (1 + 0)).2) = _
    rw [e1]; rfl
  rw [layP_node _ [] 0 (by simp only; omega) (by simp only; omega)]
  simp only
  rw [e2]
theorem snd_of : OFG sndT sndG := by
  have e : (layP sndT [] 0).2 = sndG := by
    have := one_lay 2 (.inl rfl)
    show (layP ⟨2, 1, ⟨#[]⟩, [], [endT]⟩ [] 0).2 = _
    rw [this]; rfl
  have hs := (lay_gn snd_chk).shut
  rw [e] at hs
  have hc := cls_done hs (pat_split hs (pat_zero sndG)) (by kernel_rfl)
  exact ⟨snd_chk, _, by rw [e]; exact hc, by rw [e]; kernel_rfl⟩
theorem rcv_of : OFG rcvT rcvG := by
  have e : (layP rcvT [] 0).2 = rcvG := by
    have := one_lay 3 (.inr rfl)
    show (layP ⟨3, 1, ⟨#[]⟩, [], [endT]⟩ [] 0).2 = _
    rw [this]; rfl
  have hs := (lay_gn rcv_chk).shut
  rw [e] at hs
  have hc := cls_done hs (pat_split hs (pat_zero rcvG)) (by kernel_rfl)
  exact ⟨rcv_chk, _, by rw [e]; exact hc, by rw [e]; kernel_rfl⟩
theorem snd_rcv : srC sndG rcvG = (none, (srC sndG rcvG).2) ∧ enW sndG (srC sndG rcvG).2 (srC sndG rcvG).2.length = (true, 1) := ⟨by kernel_rfl, by kernel_rfl⟩
theorem endsOne {w : World} {args : Array Value} (c : Calls Tryd.prog 18 args w (EDPost sndT rcvT w)) : Calls Tryd.prog 18 args w fun e w' => e = .returned (.tuple #[.int .i64 1, .int .i64 0]) ∧ Below w.heap.size w w' := by
  refine c.mono ?_
  rintro e w' ⟨h | h | ⟨g, h, hg, hh, hor⟩, hb⟩
  · exact absurd snd_chk h.1
  · exact absurd rcv_chk h.2.1
  · obtain rfl := hg.uniq snd_of
    obtain rfl := hh.uniq rcv_of
    refine ⟨?_, hb⟩
    rcases hor with ⟨k, arr, hs, _⟩ | ⟨arr, hs, hor⟩
    · rw [snd_rcv.1] at hs; cases (congrArg Prod.fst hs)
    · have ha : arr = (srC sndG rcvG).2 := by rw [hs]
      rw [ha, snd_rcv.2] at hor
      rcases hor with ⟨_, e⟩ | ⟨e, _⟩
      · exact e
      · cases e
end Go.Proofs.YtnlpnbelkkgghaaDoor
