/-
  Plain mathematics: a type unfolded once does the same, and has one Rec less ahead; the contract of types.recsAhead.
-/
import Derived.Test.YtnlpnbelkkgghaaDoorVc
import Derived.Test.YtnlpnbelkkgghaaDoorAb
namespace Go.Proofs.YtnlpnbelkkgghaaDoor
open Go.RowKit Go.Shelf

/-- how many Recs stand ahead -/
def recsT : Ty → Nat
  | ⟨kd, _, _, _, ks⟩ => if kd = 8 then ks.foldl (fun _ k => recsT k + 1) 0 else 0
theorem recsT_rec (t : Ty) (h : t.kind = 8) (q : Ty) (hk : t.kids = [q]) : recsT t = recsT q + 1 := by
  cases t
  simp only at h hk
  subst h hk
  rw [recsT, if_pos rfl]
  rfl
theorem recsT_node (t : Ty) (h : t.kind ≠ 8) : recsT t = 0 := by cases t; rw [recsT, if_neg h]
theorem recs_le : ∀ t : Ty, gdT t → recsT t < sizeT t := by
  apply tyInd
  intro t ih hg
  by_cases h8 : t.kind = 8
  · obtain ⟨q, hq⟩ := part_rec ((gdT_eq t).1 hg).1 h8
    have hm : q ∈ t.kids := by rw [hq]; exact .head _
    have := ih q hm (((gdT_eq t).1 hg).2.2 q hm)
    rw [recsT_rec t h8 q hq, sizeT_eq t, hq]
    simp only [List.map_cons, List.map_nil, List.sum_cons, List.sum_nil]
    omega
  · rw [recsT_node t h8, sizeT_eq t]; omega
theorem recs_put (x : ByteArray) (s : Ty) : ∀ t : Ty, gdT t → idT t = false → recsT (putT x s t) = recsT t := by
  apply tyInd
  intro t ih hg hi
  have h9 : t.kind ≠ 9 := fun h => by rw [idT_var t h] at hi; cases hi
  by_cases h8 : t.kind = 8
  · obtain ⟨q, hq⟩ := part_rec ((gdT_eq t).1 hg).1 h8
    have hm : q ∈ t.kids := by rw [hq]; exact .head _
    by_cases hx : t.name = x
    · rw [putT_rec x s t ⟨h8, hx⟩]
    · have e1 : recsT ⟨t.kind, t.so, t.name, t.labels, t.kids.map (putT x s)⟩ = recsT (putT x s q) + 1 := recsT_rec ⟨t.kind, t.so, t.name, t.labels, t.kids.map (putT x s)⟩ h8 (putT x s q) (by show t.kids.map _ = _; rw [hq]; rfl)
      rw [putT_else x s t (fun h => h9 h.1) (fun h => hx h.2), e1, recsT_rec t h8 q hq]
      rw [idT_rec t h8 q hq] at hi
      rw [ih q hm (((gdT_eq t).1 hg).2.2 q hm) hi]
  · rw [putT_else x s t (fun h => h9 h.1) (fun h => h8 h.1), recsT_node t h8]
    exact recsT_node _ h8
/-- what is kept while a type is unfolded -/
structure UFI (t T : Ty) : Prop where
  gd : gdT T
  cl : clT T []
  id : idT T = false
  dn : den T e0 = den t e0
theorem UFI.one {t T : Ty} (h : UFI t T) (h8 : T.kind = 8) {q : Ty} (hq : T.kids = [q]) : UFI t (putT T.name T q) ∧ recsT (putT T.name T q) + 1 = recsT T ∧ gdT q ∧ sizeT q + 1 = sizeT T := by
  have hm : q ∈ T.kids := by rw [hq]; exact .head _
  have hg := (gdT_eq T).1 h.gd
  have hgq := hg.2.2 q hm
  have hiq : idT q = false := by rw [← idT_rec T h8 q hq]; exact h.id
  have hwq := gdT_wf q hgq
  have hcq : clT q [T.name] := by
    have := ((clT_eq T []).1 h.cl).2 q hm
    rw [if_pos h8] at this
    exact this
  refine ⟨⟨put_gd T.name T h.gd q hgq, put_cl T.name T q [T.name] [] (fun y hy hne => absurd (List.mem_singleton.1 hy) hne) h.cl hcq, put_id T.name T q hwq hiq, ?_⟩, ?_, hgq, ?_⟩
  · rw [put_den T.name ⟨#[]⟩ T (gdT_wf T h.gd) (clT_mono T [] [⟨#[]⟩] (fun y hy => by cases hy) h.cl) q hwq (cap_none T.name q hwq) e0, ← den_fix h.gd h8 hq e0]
    exact h.dn
  · rw [recs_put T.name T q hgq hiq, recsT_rec T h8 q hq]
  · rw [sizeT_eq T, hq]
    simp only [List.map_cons, List.map_nil, List.sum_cons, List.sum_nil]
    omega
theorem UFI.start {t : Ty} (h : chkTy t = 0) : UFI t t := by
  obtain ⟨h1, h2, h3⟩ := chkTy_gd t h
  exact ⟨h1, h2, h3, rfl⟩
theorem UFI.done {t T : Ty} (h : UFI t T) (hs : sizeT T ≤ 60) : chkTy T = 0 := by
  rcases chkTy_or h.gd h.cl (by omega) with q | q
  · exact q
  · omega
set_option maxRecDepth 100000 in
set_option maxHeartbeats 4000000 in
theorem recsAhead_any (t : Ty) (al : Option Addr) (cl : Nat) (ak : Option Addr) (ck d B : Nat) (w : World) (hg : gdT t) (hs : sizeT t ≤ 100000) (hkt : KT w B d t.kids ak) (hB : B ≤ w.heap.size) :
    Calls Tryd.prog 35 #[tyVal t al cl ak ck] w fun e w' => e = .returned (.int .i64 (recsT t : Int)) ∧ Below w.heap.size w w' := by
  have hA : Below w.heap.size w (w.alloc (.cells #[.int .i64 t.kind, .int .i64 t.so, .string t.name, .slice al t.labels.length cl, .slice ak t.kids.length ck] 25)) := (Below.refl _ _).alloc (Nat.le_refl _) _
  have HT := hideK (lit_ty w t al cl ak ck)
  have HA := hideK hA
  have HKT := hideK hkt
  have HG := hideK hg
  have hrl : recsT t ≤ 100000 := by have := recs_le t hg; omega
  have HL := hideK (show w.heap.size < (w.alloc (.cells #[.int .i64 t.kind, .int .i64 t.so, .string t.name, .slice al t.labels.length cl, .slice ak t.kids.length ck] 25)).heap.size from by simp)
  have HF := hideK (show ∀ o, (w.alloc (.cells #[.int .i64 t.kind, .int .i64 t.so, .string t.name, .slice al t.labels.length cl, .slice ak t.kids.length ck] 25)).frozen? ⟨w.heap.size, o, none⟩ = false from fun o => by go_simp)
  clear hkt hA hg hs
  simp only [tyVal]
  go_enter Tryd.func35, Tryd.ntmps35
  go_upto_region 2 with fail
  generalize (w.alloc (.cells #[.int .i64 t.kind, .int .i64 t.so, .string t.name, .slice al t.labels.length cl, .slice ak t.kids.length ck] 25)) = W0 at *
  go_loopw [3] (fun v wr => ∃ (T : Ty) (al' : Option Addr) (cl' : Nat) (ak' : Option Addr) (ck' d' n : Nat), v = .int .i64 (n : Int) ∧ n + recsT T = recsT t ∧ TyAt wr w.heap.size 0 T al' cl' ak' ck' ∧ KT wr B d' T.kids ak' ∧ gdT T ∧ w.heap.size < wr.heap.size ∧ (∀ o, wr.frozen? ⟨w.heap.size, o, none⟩ = false) ∧ Below w.heap.size w wr) (fun v _ => recsT t - (intOf v).toNat)
  case atStart => exact ⟨t, al, cl, ak, ck, d, 0, rfl, Nat.zero_add _, HT.out, KT.keep (HA.out.mono hB) HKT.out, HG.out, HL.out, HF.out, HA.out⟩
  case round =>
    obtain ⟨T, al', cl', ak', ck', d', n, rfl, hn, hT, hK, hgT, hlt, hfz, hb⟩ := hrel
    clear HT HA HKT HG HL HF
    by_cases h8 : T.kind = 8
    · obtain ⟨q, hq⟩ := part_rec ((gdT_eq T).1 hgT).1 h8
      have k8 : (T.kind == 8) = true := by simpa using h8
      have hkl : (T.kids.length : Int) = 1 := by rw [hq]; rfl
      obtain ⟨d2, rfl, kb, ko, rfl, hkb, hkc⟩ := kt_open hK (by rw [hq]; simp)
      obtain ⟨qal, qcl, qak, qck, hqa, hqb, hql, hqk⟩ := hkc 0 (by rw [hq]; simp)
      have hq0 : T.kids[0]'(by rw [hq]; simp) = q := by simp [hq]
      rw [hq0] at hqa hqb hql hqk
      rw [Nat.zero_mul, Nat.add_zero] at hqa
      have hm : q ∈ T.kids := by rw [hq]; exact .head _
      have HGQ := hideK (((gdT_eq T).1 hgT).2.2 q hm)
      have HRQ := hideK (recsT_rec T h8 q hq)
      obtain ⟨x0, x1, x2, x3, x4⟩ := hT
      simp only [Nat.zero_add] at x1 x2 x3 x4
      obtain ⟨y0, y1, y2, y3, y4⟩ := hqa
      have f0 := hfz 0
      have f1 := hfz 1
      have f2 := hfz 2
      have f3 := hfz 3
      have f4 := hfz 4
      have HN := hideK hn
      have hn9 : (n : Int) ≤ 100000 := by omega
      have HQK := hideK hqk
      have HZ := hideK hfz
      have HB := hideK (st5_below w.heap.size 0 (.int .i64 q.kind) (.int .i64 q.so) (.string q.name) (.slice qal q.labels.length qcl) (.slice qak q.kids.length qck) hb (Nat.le_refl _))
      have HTA := hideK (st5_at wr w.heap.size 0 q qal qcl qak qck (fun j hj => by
        rw [Nat.zero_add]
        have : j = 0 ∨ j = 1 ∨ j = 2 ∨ j = 3 ∨ j = 4 := by omega
        rcases this with rfl | rfl | rfl | rfl | rfl
        · exact ⟨_, x0⟩
        · exact ⟨_, x1⟩
        · exact ⟨_, x2⟩
        · exact ⟨_, x3⟩
        · exact ⟨_, x4⟩))
      have HSB := hideK (show Below w.heap.size wr (st5 wr w.heap.size 0 (.int .i64 q.kind) (.int .i64 q.so) (.string q.name) (.slice qal q.labels.length qcl) (.slice qak q.kids.length qck)) from ⟨rfl, rfl, rfl, by rw [st5_size]; exact Nat.le_refl _, fun b hb' => by
        unfold st5
        rw [Below.heap_setCell _ _ _ b (fun e => by have e : b = w.heap.size := e; omega), Below.heap_setCell _ _ _ b (fun e => by have e : b = w.heap.size := e; omega), Below.heap_setCell _ _ _ b (fun e => by have e : b = w.heap.size := e; omega), Below.heap_setCell _ _ _ b (fun e => by have e : b = w.heap.size := e; omega), Below.heap_setCell _ _ _ b (fun e => by have e : b = w.heap.size := e; omega)]⟩)
      clear hkc hfz hn hb hqk hqb hql hgT hm hK hq hq0 h8
      go_wp2_with fail
      go_roundw
      case rel =>
        refine ⟨q, qal, qcl, qak, qck, d2, n + 1, by go_num, by have := HN.out; have := HRQ.out; omega, HTA.out, KT.keep (HSB.out.mono hB) HQK.out, HGQ.out, by simpa using hlt, fun o => (st5_frozen _ _ _ _ _ _ _ _ _).trans (HZ.out o), HB.out⟩
      case measure => have := HN.out; have := HRQ.out; simp [intOf]; omega
    · have k8 : (T.kind == 8) = false := by simpa using h8
      have hr0 := recsT_node T h8
      obtain ⟨x0, x1, x2, x3, x4⟩ := hT
      have HN := hideK (show n = recsT t by omega)
      have HB := hideK hb
      clear hfz hn hb hgT hK h8
      go_wp2_with fail
      go_ret
      exact ⟨by rw [HN.out]; rfl, HB.out⟩
end Go.Proofs.YtnlpnbelkkgghaaDoor
