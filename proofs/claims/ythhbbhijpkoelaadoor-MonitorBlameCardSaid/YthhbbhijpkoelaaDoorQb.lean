/-
  Plain mathematics: a type unfolded once does the same, and has one Rec less ahead.
-/
import Derived.Test.YthhbbhijpkoelaaDoorVk
import Derived.Test.YthhbbhijpkoelaaDoorQa
import Derived.Deep.LoopGhost
namespace Go.Proofs.YthhbbhijpkoelaaDoor
open Go.RowKit Go.Shelf

/-- how many Recs stand ahead -/
def recsT : Ty → Nat
  | ⟨kd, _, _, _, ks⟩ => if kd = 8 then ks.foldl (fun _ k => recsT k + 1) 0 else 0
theorem recsT_rec (t : Ty) (h : t.kind = 8) (q : Ty) (hk : t.kids = [q]) : recsT t = recsT q + 1 := by
  cases t
  simp only at h hk
  subst h hk
  rw [recsT, if_pos rfl]
  rfl
theorem recsT_node (t : Ty) (h : t.kind ≠ 8) : recsT t = 0 := by cases t; rw [recsT, if_neg h]
theorem recs_put (x : ByteArray) (s : Ty) : ∀ t : Ty, gdT t → idT t = false → recsT (putT x s t) = recsT t := by
  apply tyInd
  intro t ih hg hi
  have h9 : t.kind ≠ 9 := fun h => by rw [idT_var t h] at hi; cases hi
  by_cases h8 : t.kind = 8
  · obtain ⟨q, hq⟩ := part_rec ((gdT_eq t).1 hg).1 h8
    have hm : q ∈ t.kids := by rw [hq]; exact .head _
    by_cases hx : t.name = x
    · rw [putT_rec x s t ⟨h8, hx⟩]
    · have e1 : recsT ⟨t.kind, t.so, t.name, t.labels, t.kids.map (putT x s)⟩ = recsT (putT x s q) + 1 := recsT_rec ⟨t.kind, t.so, t.name, t.labels, t.kids.map (putT x s)⟩ h8 (putT x s q) (by show t.kids.map _ = _; rw [hq]; rfl)
      rw [putT_else x s t (fun h => h9 h.1) (fun h => hx h.2), e1, recsT_rec t h8 q hq]
      rw [idT_rec t h8 q hq] at hi
      rw [ih q hm (((gdT_eq t).1 hg).2.2 q hm) hi]
  · rw [putT_else x s t (fun h => h9 h.1) (fun h => h8 h.1), recsT_node t h8]
    exact recsT_node _ h8
/-- what is kept while a type is unfolded -/
structure UFI (t T : Ty) : Prop where
  gd : gdT T
  cl : clT T []
  id : idT T = false
  dn : den T e0 = den t e0
theorem UFI.one {t T : Ty} (h : UFI t T) (h8 : T.kind = 8) {q : Ty} (hq : T.kids = [q]) : UFI t (putT T.name T q) ∧ recsT (putT T.name T q) + 1 = recsT T ∧ gdT q ∧ sizeT q + 1 = sizeT T := by
  have hm : q ∈ T.kids := by rw [hq]; exact .head _
  have hg := (gdT_eq T).1 h.gd
  have hgq := hg.2.2 q hm
  have hiq : idT q = false := by rw [← idT_rec T h8 q hq]; exact h.id
  have hwq := gdT_wf q hgq
  have hcq : clT q [T.name] := by
    have := ((clT_eq T []).1 h.cl).2 q hm
    rw [if_pos h8] at this
    exact this
  refine ⟨⟨put_gd T.name T h.gd q hgq, put_cl T.name T q [T.name] [] (fun y hy hne => absurd (List.mem_singleton.1 hy) hne) h.cl hcq, put_id T.name T q hwq hiq, ?_⟩, ?_, hgq, ?_⟩
  · rw [put_den T.name ⟨#[]⟩ T (gdT_wf T h.gd) (clT_mono T [] [⟨#[]⟩] (fun y hy => by cases hy) h.cl) q hwq (cap_none T.name q hwq) e0, ← den_fix h.gd h8 hq e0]
    exact h.dn
  · rw [recs_put T.name T q hgq hiq, recsT_rec T h8 q hq]
  · rw [sizeT_eq T, hq]
    simp only [List.map_cons, List.map_nil, List.sum_cons, List.sum_nil]
    omega
theorem UFI.start {t : Ty} (h : chkTy t = 0) : UFI t t := by
  obtain ⟨h1, h2, h3⟩ := chkTy_gd t h
  exact ⟨h1, h2, h3, rfl⟩
end Go.Proofs.YthhbbhijpkoelaaDoor
/-
  The contract of duetref.Head, for every type that is closed and right in all its parts.
-/
namespace Go.Proofs.YthhbbhijpkoelaaDoor
open Go.RowKit Go.Shelf

/-- where the parts of a type lie that is made while P holds of what lay there -/
abbrev NW (P : Nat → Prop) (w w' : World) : Nat → Prop := fun b => P b ∨ (w.heap.size ≤ b ∧ b < w'.heap.size)
/-- the box of the type that is unfolded, what it names, and the result's box -/
structure HDW (w : World) (P : Nat → Prop) (T : Ty) (al : Option Addr) (cl : Nat) (ak : Option Addr) (ck d : Nat) (W : World) : Prop where
  a : TyAt W w.heap.size 0 T al cl ak ck
  bd : TyBd T cl ck
  lp : LP W (fun b => P b ∨ (w.heap.size + 1 < b ∧ b < W.heap.size)) T.labels al
  kp : KP W (fun b => P b ∨ (w.heap.size + 1 < b ∧ b < W.heap.size)) d T.kids ak
  fz : ∀ o, W.frozen? ⟨w.heap.size, o, none⟩ = false
  z : ∀ j, j < 5 → (∃ v, W.cell? ⟨w.heap.size + 1, j, none⟩ = some v) ∧ W.frozen? ⟨w.heap.size + 1, j, none⟩ = false
  lt : w.heap.size + 1 < W.heap.size
  bl : Below w.heap.size w W
/-- what Head answers -/
def HDPost (t : Ty) (P : Nat → Prop) (w : World) (e : Ending) (w' : World) : Prop :=
  (∃ T, UFI t T ∧ T.kind ≠ 8 ∧ ∃ al cl ak ck d, e = .returned (tyVal T al cl ak ck) ∧ TyBd T cl ck ∧ LP w' (NW P w w') T.labels al ∧ KP w' (NW P w w') d T.kids ak) ∧ Below w.heap.size w w'
theorem HDW.drew {w : World} {P : Nat → Prop} {T : Ty} {al : Option Addr} {cl : Nat} {ak : Option Addr} {ck d : Nat} {W : World} (h : HDW w P T al cl ak ck d W) : HDW w P T al cl ak ck d W.drew := ⟨⟨h.a.c0, h.a.c1, h.a.c2, h.a.c3, h.a.c4⟩, h.bd, h.lp.keep (fun _ _ _ => rfl) (fun _ h => h), KP.keep (W := W) (W' := W.drew) (fun _ _ _ => rfl) (fun _ h => h) h.kp, h.fz, h.z, h.lt, h.bl.drew⟩
theorem HDW.put {w : World} {P : Nat → Prop} {T : Ty} {al : Option Addr} {cl : Nat} {ak : Option Addr} {ck d : Nat} {W W2 : World} (h : HDW w P T al cl ak ck d W) (hP : ∀ b, P b → b < w.heap.size) (hb : Below W.heap.size W W2) {r : Ty} {al3 : Option Addr} {cl3 : Nat} {ak3 : Option Addr} {ck3 d3 : Nat} (hbd : TyBd r cl3 ck3)
    (hlp : LP W2 (fun b => (P b ∨ (w.heap.size + 1 < b ∧ b < W.heap.size)) ∨ (W.heap.size ≤ b ∧ b < W2.heap.size)) r.labels al3) (hkp : KP W2 (fun b => (P b ∨ (w.heap.size + 1 < b ∧ b < W.heap.size)) ∨ (W.heap.size ≤ b ∧ b < W2.heap.size)) d3 r.kids ak3) :
    HDW w P r al3 cl3 ak3 ck3 d3 (st5 W2 w.heap.size 0 (.int .i64 r.kind) (.int .i64 r.so) (.string r.name) (.slice al3 r.labels.length cl3) (.slice ak3 r.kids.length ck3)) := by
  have hl := h.lt
  have hs := hb.size
  have hsz : (st5 W2 w.heap.size 0 (.int .i64 r.kind) (.int .i64 r.so) (.string r.name) (.slice al3 r.labels.length cl3) (.slice ak3 r.kids.length ck3)).heap.size = W2.heap.size := st5_size _ _ _ _ _ _ _ _
  have hc : ∀ b o, b ≠ w.heap.size → (st5 W2 w.heap.size 0 (.int .i64 r.kind) (.int .i64 r.so) (.string r.name) (.slice al3 r.labels.length cl3) (.slice ak3 r.kids.length ck3)).cell? ⟨b, o, none⟩ = W2.cell? ⟨b, o, none⟩ := fun b o q => st5_other _ _ _ _ _ _ _ _ _ _ (.inl q)
  have ha := h.a.keep hb (by omega)
  have hin : ∀ b, ((P b ∨ (w.heap.size + 1 < b ∧ b < W.heap.size)) ∨ (W.heap.size ≤ b ∧ b < W2.heap.size)) → b ≠ w.heap.size := fun b q => by
    rcases q with (q | q) | q
    · have := hP b q; omega
    · omega
    · omega
  have hto : ∀ b, ((P b ∨ (w.heap.size + 1 < b ∧ b < W.heap.size)) ∨ (W.heap.size ≤ b ∧ b < W2.heap.size)) → (P b ∨ (w.heap.size + 1 < b ∧ b < (st5 W2 w.heap.size 0 (.int .i64 r.kind) (.int .i64 r.so) (.string r.name) (.slice al3 r.labels.length cl3) (.slice ak3 r.kids.length ck3)).heap.size)) := fun b q => by
    rw [hsz]
    rcases q with (q | q) | q
    · exact .inl q
    · exact .inr (by omega)
    · exact .inr (by omega)
  refine ⟨st5_at W2 w.heap.size 0 r al3 cl3 ak3 ck3 (fun j hj => ?_), hbd, hlp.keep (fun b o q => hc b o (hin b q)) hto, hkp.keep (fun b o q => hc b o (hin b q)) hto, fun o => ?_, fun j hj => ?_, by rw [hsz]; omega, st5_below _ 0 _ _ _ _ _ (h.bl.trans (hb.mono h.bl.size)) (Nat.le_refl _)⟩
  · rw [Nat.zero_add]
    match j, hj with
    | 0, _ => exact ⟨_, ha.c0⟩
    | 1, _ => exact ⟨_, ha.c1⟩
    | 2, _ => exact ⟨_, ha.c2⟩
    | 3, _ => exact ⟨_, ha.c3⟩
    | 4, _ => exact ⟨_, ha.c4⟩
  · refine Eq.trans ?_ ((hb.frozen (p := ⟨w.heap.size, o, none⟩) (by show w.heap.size < _; omega)).trans (h.fz o))
    unfold st5
    simp only [World.frozen?_setCell]
  · obtain ⟨⟨v, hv⟩, hf⟩ := h.z j hj
    refine ⟨⟨v, (hc _ _ (by omega)).trans ((hb.cell (p := ⟨w.heap.size + 1, j, none⟩) (by show w.heap.size + 1 < _; omega)).trans hv)⟩, Eq.trans ?_ ((hb.frozen (p := ⟨w.heap.size + 1, j, none⟩) (by show w.heap.size + 1 < _; omega)).trans hf)⟩
    unfold st5
    simp only [World.frozen?_setCell]
set_option maxRecDepth 100000 in
set_option maxHeartbeats 8000000 in
theorem head_any (t : Ty) (al : Option Addr) (cl : Nat) (ak : Option Addr) (ck d : Nat) (P : Nat → Prop) (w : World) (hu : UFI t t) (hbd : TyBd t cl ck) (hla : LP w P t.labels al) (hkt : KP w P d t.kids ak) (hP : ∀ b, P b → b < w.heap.size) :
    Calls Tryd.prog 7 #[tyVal t al cl ak ck] w (HDPost t P w) := by
  unfold HDPost
  have hA : Below w.heap.size w ((w.alloc (.cells #[.int .i64 t.kind, .int .i64 t.so, .string t.name, .slice al t.labels.length cl, .slice ak t.kids.length ck] 25)).alloc (.cells #[.int .i64 0, .int .i64 0, .string ⟨#[]⟩, .slice none 0 0, .slice none 0 0] 25)) := ((Below.refl _ _).alloc (Nat.le_refl _) _).alloc (by simp) _
  have HD0 := hideK (show HDW w P t al cl ak ck d ((w.alloc (.cells #[.int .i64 t.kind, .int .i64 t.so, .string t.name, .slice al t.labels.length cl, .slice ak t.kids.length ck] 25)).alloc (.cells #[.int .i64 0, .int .i64 0, .string ⟨#[]⟩, .slice none 0 0, .slice none 0 0] 25)) from by
    refine ⟨⟨by go_cell, by go_cell, by go_cell, by go_cell, by go_cell⟩, hbd, hla.keep (fun b o hb => hA.cell (p := ⟨b, o, none⟩) (hP b hb)) (fun b hb => .inl hb), hkt.keep (fun b o hb => hA.cell (p := ⟨b, o, none⟩) (hP b hb)) (fun b hb => .inl hb), fun o => by go_simp, fun j hj => ?_, by simp, hA⟩
    match j, hj with
    | 0, _ => exact ⟨⟨.int .i64 0, by go_cell⟩, by go_simp⟩
    | 1, _ => exact ⟨⟨.int .i64 0, by go_cell⟩, by go_simp⟩
    | 2, _ => exact ⟨⟨.string ⟨#[]⟩, by go_cell⟩, by go_simp⟩
    | 3, _ => exact ⟨⟨.slice none 0 0, by go_cell⟩, by go_simp⟩
    | 4, _ => exact ⟨⟨.slice none 0 0, by go_cell⟩, by go_simp⟩)
  have HU := hideK hu
  have HPB := hideK hP
  simp only [tyVal]
  clear hu hbd hla hkt hP hA
  go_enter Tryd.func7, Tryd.ntmps7
  go_upto_region 1 with fail
  generalize ((w.alloc (.cells #[.int .i64 t.kind, .int .i64 t.so, .string t.name, .slice al t.labels.length cl, .slice ak t.kids.length ck] 25)).alloc (.cells #[.int .i64 0, .int .i64 0, .string ⟨#[]⟩, .slice none 0 0, .slice none 0 0] 25)) = W0 at *
  go_loopg [] (recsT t) (fun m wr => ∃ (T : Ty) (al' : Option Addr) (cl' : Nat) (ak' : Option Addr) (ck' d' : Nat), HDW w P T al' cl' ak' ck' d' wr ∧ UFI t T ∧ recsT T = m)
  case atStart => exact ⟨t, al, cl, ak, ck, d, HD0.out, HU.out, rfl⟩
  case round =>
    obtain ⟨T, al', cl', ak', ck', d', hD, hU, hm⟩ := hrel
    clear HD0 HU
    by_cases h8 : T.kind = 8
    · obtain ⟨q, hq⟩ := part_rec ((gdT_eq T).1 hU.gd).1 h8
      obtain ⟨u1, u2, u3, u4⟩ := hU.one h8 hq
      have HU1 := hideK u1
      have HR1 := hideK u2
      have k8 : (T.kind == 8) = true := by simpa using h8
      have hkl : (0 : Int) < (T.kids.length : Int) := by simp [hq]
      have hkn : ¬ T.kids = [] := by rw [hq]; simp
      obtain ⟨kb, ko, rfl, hkP, qal, qcl, qak, qck, hqa, hqb, hql, d2, hqk⟩ := kp_at hD.kp (j := 0) (by rw [hq]; exact Nat.one_pos)
      have e0 : T.kids[0]'(by rw [hq]; exact Nat.one_pos) = q := by simp [hq]
      rw [e0] at hqa hqb hql hqk
      simp only [Nat.zero_mul, Nat.add_zero] at hqa
      have hPW : ∀ b, (P b ∨ (w.heap.size + 1 < b ∧ b < wr.heap.size)) → b < wr.drew.heap.size := fun b hb => by
        show b < wr.heap.size
        rcases hb with hb | hb
        · have h1 := HPB.out b hb; have h2 := hD.lt; omega
        · exact hb.2
      have CP := hideK (inPlace_any (sizeT q) T.name T q qal qcl qak qck d2 al' cl' (some ⟨kb, ko, none⟩) ck' d' (fun b => P b ∨ (w.heap.size + 1 < b ∧ b < wr.heap.size)) wr.drew (Nat.le_refl _) hqb (hql.keep (fun _ _ _ => rfl) (fun _ h => h)) (KP.keep (W := wr) (W' := wr.drew) (fun _ _ _ => rfl) (fun _ h => h) hqk) hD.bd (hD.lp.keep (fun _ _ _ => rfl) (fun _ h => h)) (KP.keep (W := wr) (W' := wr.drew) (fun _ _ _ => rfl) (fun _ h => h) hD.kp) hPW (gdT_wf q u3))
      unfold INPost at CP
      simp only [tyVal] at CP
      have HLT := hideK (show w.heap.size < wr.drew.heap.size ∧ kb < wr.drew.heap.size from ⟨by show w.heap.size < wr.heap.size; have := hD.lt; omega, hPW kb hkP⟩)
      have HD := hideK hD.drew
      have HS0 := hideK (show TyAt wr.drew w.heap.size 0 T al' cl' (some ⟨kb, ko, none⟩) ck' ∧ TyAt wr.drew kb ko q qal qcl qak qck from ⟨hD.drew.a, ⟨hqa.c0, hqa.c1, hqa.c2, hqa.c3, hqa.c4⟩⟩)
      obtain ⟨x0, x1, x2, x3, x4⟩ := hD.a
      simp only [Nat.zero_add] at x1 x2 x3 x4
      have HM := hideK hm
      clear hD hU u1 u2 u3 u4 hqa hqb hql hqk hPW hkP e0 hm h8 hq
      go_wp2_with fail
      refine wp_region_upto (fun W : World => TyAt W w.heap.size 0 T al' cl' (some ⟨kb, ko, none⟩) ck' ∧ TyAt W kb ko q qal qcl qak qck) 8 (by kernel_rfl) (HS0.out) (fun hS => ?_)
      refine upto_take (i := 0) (v := (.pointer (some ⟨w.heap.size, 4, none⟩))) (by rw [List.getElem?_toArray]; rfl) (by kernel_rfl) (by kernel_rfl) (by kernel_rfl) (by kernel_rfl) (by exact fun _ _ _ h => h) (Or.inl ⟨by rfl, fun W hW => by go_simp⟩) hS ?_
      simp only [Act.put, List.setIfInBounds_toArray, List.set_cons_zero, List.set_cons_succ]
      refine upto_take (i := 1) (v := (.slice (some ⟨kb, ko, none⟩) T.kids.length ck')) (by rw [List.getElem?_toArray]; rfl) (by kernel_rfl) (by kernel_rfl) (by kernel_rfl) (by kernel_rfl) (by exact fun _ _ _ h => h) (Or.inl ⟨by rfl, fun W hW => by obtain ⟨x0, x1, x2, x3, x4⟩ := hW.1; simp only [Nat.zero_add] at x1 x2 x3 x4; go_simp⟩) hS ?_
      simp only [Act.put, List.setIfInBounds_toArray, List.set_cons_zero, List.set_cons_succ]
      refine upto_take (i := 2) (v := (.pointer (some ⟨kb, ko, none⟩))) (by rw [List.getElem?_toArray]; rfl) (by kernel_rfl) (by kernel_rfl) (by kernel_rfl) (by kernel_rfl) (by exact fun _ _ _ h => h) (Or.inl ⟨by rfl, fun W hW => by go_simp⟩) hS ?_
      simp only [Act.put, List.setIfInBounds_toArray, List.set_cons_zero, List.set_cons_succ]
      refine upto_take (i := 3) (v := (.agg #[.int .i64 q.kind, .int .i64 q.so, .string q.name, .slice qal q.labels.length qcl, .slice qak q.kids.length qck])) (by rw [List.getElem?_toArray]; rfl) (by kernel_rfl) (by kernel_rfl) (by kernel_rfl) (by kernel_rfl) (by exact fun _ _ _ h => h) (Or.inl ⟨by rfl, fun W hW => by obtain ⟨x0, x1, x2, x3, x4⟩ := hW.2; go_simp⟩) hS ?_
      simp only [Act.put, List.setIfInBounds_toArray, List.set_cons_zero, List.set_cons_succ]
      refine upto_take (i := 4) (v := (.pointer (some ⟨w.heap.size, 2, none⟩))) (by rw [List.getElem?_toArray]; rfl) (by kernel_rfl) (by kernel_rfl) (by kernel_rfl) (by kernel_rfl) (by exact fun _ _ _ h => h) (Or.inl ⟨by rfl, fun W hW => by go_simp⟩) hS ?_
      simp only [Act.put, List.setIfInBounds_toArray, List.set_cons_zero, List.set_cons_succ]
      refine upto_take (i := 5) (v := (.string T.name)) (by rw [List.getElem?_toArray]; rfl) (by kernel_rfl) (by kernel_rfl) (by kernel_rfl) (by kernel_rfl) (by exact fun _ _ _ h => h) (Or.inl ⟨by rfl, fun W hW => by obtain ⟨x0, x1, x2, x3, x4⟩ := hW.1; simp only [Nat.zero_add] at x1 x2 x3 x4; go_simp⟩) hS ?_
      simp only [Act.put, List.setIfInBounds_toArray, List.set_cons_zero, List.set_cons_succ]
      refine upto_take (i := 6) (v := (.agg #[.int .i64 T.kind, .int .i64 T.so, .string T.name, .slice al' T.labels.length cl', .slice (some ⟨kb, ko, none⟩) T.kids.length ck'])) (by rw [List.getElem?_toArray]; rfl) (by kernel_rfl) (by kernel_rfl) (by kernel_rfl) (by kernel_rfl) (by exact fun _ _ _ h => h) (Or.inl ⟨by rfl, fun W hW => by obtain ⟨x0, x1, x2, x3, x4⟩ := hW.1; simp only [Nat.zero_add] at x1 x2 x3 x4; go_simp⟩) hS ?_
      simp only [Act.put, List.setIfInBounds_toArray, List.set_cons_zero, List.set_cons_succ]
      refine upto_one 7 (by rw [List.getElem?_toArray]; rfl) (by kernel_rfl) (fun K hK => ?_)
      go_simp
      refine CP.out.mono ?_
      rintro e w2 ⟨⟨al3, cl3, ak3, ck3, d3, rfl, hbd3, hlp3, hkp3⟩, hb2⟩
      have HPUT := hideK (HD.out.put HPB.out hb2 hbd3 hlp3 hkp3)
      have HS2 := hideK (show TyAt w2 w.heap.size 0 T al' cl' (some ⟨kb, ko, none⟩) ck' ∧ TyAt w2 kb ko q qal qcl qak qck from ⟨HS0.out.1.keep hb2 HLT.out.1, HS0.out.2.keep hb2 HLT.out.2⟩)
      have f0 : ∀ o, w2.frozen? ⟨w.heap.size, o, none⟩ = false := fun o => (hb2.frozen (p := ⟨w.heap.size, o, none⟩) HLT.out.1).trans (HD.out.fz o)
      clear hbd3 hlp3 hkp3 hb2
      generalize putT T.name T q = r at *
      have hSn := HS2.out
      refine hK.out _ _ hSn ?_
      clear hS hK K hSn
      intro hS
      try simp only [Act.put, List.setIfInBounds_toArray, List.set_cons_zero, List.set_cons_succ]
      obtain ⟨z0, z1, z2, z3, z4⟩ := HS2.out.1
      simp only [Nat.zero_add] at z1 z2 z3 z4
      refine upto_last (by rw [List.getElem?_toArray]; rfl) (by kernel_rfl) (fun K hK => ?_)
      go_simp
      refine hK.out _ _ ?_
      clear hS hK K
      refine upto_done (by kernel_rfl) ?_ _
      have HPUT2 := hideK HPUT.out
      change HDW _ _ _ _ _ _ _ _ (st5 w2 w.heap.size 0 (.int .i64 r.kind) (.int .i64 r.so) (.string r.name) (.slice al3 r.labels.length cl3) (.slice ak3 r.kids.length ck3)) at HPUT2

      change Exit.inBlock _ _ _ _ (st5 w2 w.heap.size 0 (.int .i64 r.kind) (.int .i64 r.so) (.string r.name) (.slice al3 r.labels.length cl3) (.slice ak3 r.kids.length ck3))
      generalize st5 w2 w.heap.size 0 (.int .i64 r.kind) (.int .i64 r.so) (.string r.name) (.slice al3 r.labels.length cl3) (.slice ak3 r.kids.length ck3) = W9 at HPUT2 ⊢
      clear HPUT HS2 HS0 f0 x0 x1 x2 x3 x4 z0 z1 z2 z3 z4 CP HD HLT
      go_wp2_with fail
      go_roundg (recsT r)
      case measure => have h1 := HR1.out; have h2 := HM.out; omega
      case rel => exact ⟨r, al3, cl3, ak3, ck3, d3, HPUT2, HU1.out, rfl⟩
    · have k8 : (T.kind == 8) = false := by simpa using h8
      have HU := hideK hU
      have HD := hideK hD
      have H8 := hideK h8
      obtain ⟨x0, x1, x2, x3, x4⟩ := hD.a
      simp only [Nat.zero_add] at x1 x2 x3 x4
      obtain ⟨⟨zv0, zc0⟩, zf0⟩ := hD.z 0 (by omega)
      obtain ⟨⟨zv1, zc1⟩, zf1⟩ := hD.z 1 (by omega)
      obtain ⟨⟨zv2, zc2⟩, zf2⟩ := hD.z 2 (by omega)
      obtain ⟨⟨zv3, zc3⟩, zf3⟩ := hD.z 3 (by omega)
      obtain ⟨⟨zv4, zc4⟩, zf4⟩ := hD.z 4 (by omega)
      clear hD hU h8 hm
      go_wp2_with fail
      have hTA := st5_at wr (w.heap.size + 1) 0 T al' cl' ak' ck' (fun j hj => by rw [Nat.zero_add]; exact (HD.out.z j hj).1)
      have hB9 := st5_below (w.heap.size + 1) 0 (.int .i64 T.kind) (.int .i64 T.so) (.string T.name) (.slice al' T.labels.length cl') (.slice ak' T.kids.length ck') HD.out.bl (by omega)
      have hsz : (st5 wr (w.heap.size + 1) 0 (.int .i64 T.kind) (.int .i64 T.so) (.string T.name) (.slice al' T.labels.length cl') (.slice ak' T.kids.length ck')).heap.size = wr.heap.size := st5_size _ _ _ _ _ _ _ _
      have hc : ∀ b o, (P b ∨ (w.heap.size + 1 < b ∧ b < wr.heap.size)) → (st5 wr (w.heap.size + 1) 0 (.int .i64 T.kind) (.int .i64 T.so) (.string T.name) (.slice al' T.labels.length cl') (.slice ak' T.kids.length ck')).cell? ⟨b, o, none⟩ = wr.cell? ⟨b, o, none⟩ := fun b o q => st5_other _ _ _ _ _ _ _ _ _ _ (.inl (by rcases q with q | q; have := HPB.out b q; omega; omega))
      have hto : ∀ b, (P b ∨ (w.heap.size + 1 < b ∧ b < wr.heap.size)) → NW P w (st5 wr (w.heap.size + 1) 0 (.int .i64 T.kind) (.int .i64 T.so) (.string T.name) (.slice al' T.labels.length cl') (.slice ak' T.kids.length ck')) b := fun b q => q.imp id fun q => by rw [hsz]; omega
      have hLP := HD.out.lp.keep hc hto
      have hKP := HD.out.kp.keep hc hto
      change bodyPost _ _ _ _ _ (st5 wr (w.heap.size + 1) 0 (.int .i64 T.kind) (.int .i64 T.so) (.string T.name) (.slice al' T.labels.length cl') (.slice ak' T.kids.length ck'))
      clear hsz hc hto
      generalize st5 wr (w.heap.size + 1) 0 (.int .i64 T.kind) (.int .i64 T.so) (.string T.name) (.slice al' T.labels.length cl') (.slice ak' T.kids.length ck') = W9 at hTA hB9 hLP hKP ⊢
      obtain ⟨r0, r1, r2, r3, r4⟩ := hTA
      simp only [Nat.zero_add] at r1 r2 r3 r4
      refine bodyPost_ret (v := .agg #[.int .i64 T.kind, .int .i64 T.so, .string T.name, .slice al' T.labels.length cl', .slice ak' T.kids.length ck']) (by simp [results, Tryd.results7, go_sem, r0, r1, r2, r3, r4]) rfl ?_
      exact ⟨⟨T, HU.out, H8.out, al', cl', ak', ck', d', rfl, HD.out.bd, hLP, hKP⟩, hB9⟩
end Go.Proofs.YthhbbhijpkoelaaDoor
