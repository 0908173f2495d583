/-
  The contracts of types.copied and types.put, for every right type.
-/
import Derived.Test.YtnlpnbelkkgghaaDoorAc
import Derived.Test.YtnlpnbelkkgghaaDoorVc
namespace Go.Proofs.YtnlpnbelkkgghaaDoor
open Go.RowKit Go.Shelf

def CPSaid (N : Nat) : Prop := ∀ (t : Ty) (al : Option Addr) (cl : Nat) (ak : Option Addr) (ck d B : Nat) (w : World), sizeT t ≤ N → gdT t → TyBd t cl ck → LA w B t.labels al → KT w B d t.kids ak → B ≤ w.heap.size →
  Calls Tryd.prog 32 #[tyVal t al cl ak ck] w (RBPost t w)
/-- what is handed back lies in a box of its own -/
theorem RBPost.box {r : Ty} {w W : World} {b : Nat} {al : Option Addr} {cl : Nat} {ak : Option Addr} {ck d : Nat} {w1 : World} (h1 : TyBd r cl ck) (h2 : LP w1 (fun x => W.heap.size ≤ x ∧ x < w1.heap.size) r.labels al) (h3 : KP w1 (fun x => W.heap.size ≤ x ∧ x < w1.heap.size) d r.kids ak) (hb : Below w.heap.size w w1) (hbw : w.heap.size ≤ b) (hbW : b < W.heap.size) (hR : RBX w1 b) :
    TyAt (st5 w1 b 0 (.int .i64 r.kind) (.int .i64 r.so) (.string r.name) (.slice al r.labels.length cl) (.slice ak r.kids.length ck)) b 0 r al cl ak ck ∧ ((∃ al' cl' ak' ck' d', Ending.returned (tyVal r al cl ak ck) = .returned (tyVal r al' cl' ak' ck') ∧ TyBd r cl' ck' ∧ LP (st5 w1 b 0 (.int .i64 r.kind) (.int .i64 r.so) (.string r.name) (.slice al r.labels.length cl) (.slice ak r.kids.length ck)) (fun x => w.heap.size ≤ x ∧ x < (st5 w1 b 0 (.int .i64 r.kind) (.int .i64 r.so) (.string r.name) (.slice al r.labels.length cl) (.slice ak r.kids.length ck)).heap.size) r.labels al' ∧ KP (st5 w1 b 0 (.int .i64 r.kind) (.int .i64 r.so) (.string r.name) (.slice al r.labels.length cl) (.slice ak r.kids.length ck)) (fun x => w.heap.size ≤ x ∧ x < (st5 w1 b 0 (.int .i64 r.kind) (.int .i64 r.so) (.string r.name) (.slice al r.labels.length cl) (.slice ak r.kids.length ck)).heap.size) d' r.kids ak') ∧ Below w.heap.size w (st5 w1 b 0 (.int .i64 r.kind) (.int .i64 r.so) (.string r.name) (.slice al r.labels.length cl) (.slice ak r.kids.length ck))) := by
  have hk : ∀ x o, (W.heap.size ≤ x ∧ x < w1.heap.size) → (st5 w1 b 0 (.int .i64 r.kind) (.int .i64 r.so) (.string r.name) (.slice al r.labels.length cl) (.slice ak r.kids.length ck)).cell? ⟨x, o, none⟩ = w1.cell? ⟨x, o, none⟩ := fun x o hx => st5_other _ _ _ _ _ _ _ _ _ _ (.inl (by omega))
  refine ⟨st5_at w1 b 0 r al cl ak ck (fun j hj => by
    rw [Nat.zero_add]
    have : j = 0 ∨ j = 1 ∨ j = 2 ∨ j = 3 ∨ j = 4 := by omega
    rcases this with rfl | rfl | rfl | rfl | rfl
    · exact ⟨_, hR.c0⟩
    · exact ⟨_, hR.c1⟩
    · exact ⟨_, hR.c2⟩
    · exact ⟨_, hR.c3⟩
    · exact ⟨_, hR.c4⟩), ⟨al, cl, ak, ck, d, rfl, h1, h2.keep hk (fun x hx => ⟨by omega, by rw [st5_size]; exact hx.2⟩), h3.keep hk (fun x hx => ⟨by omega, by rw [st5_size]; exact hx.2⟩)⟩, st5_below b 0 _ _ _ _ _ hb hbw⟩
theorem eta_ty (t : Ty) : (⟨t.kind, t.so, t.name, t.labels, t.kids.map fun q => q⟩ : Ty) = t := by cases t; simp
set_option maxRecDepth 100000 in
set_option maxHeartbeats 4000000 in
theorem copied_step (N : Nat) (ih : ∀ M, M < N → CPSaid M) : CPSaid N := by
  intro t al cl ak ck d B w hsz hgd hbd hla hkt hB
  have hp := (gdT_eq t).1 hgd
  have hA : Below w.heap.size w ((w.alloc (.cells #[.int .i64 t.kind, .int .i64 t.so, .string t.name, .slice al t.labels.length cl, .slice ak t.kids.length ck] 25)).alloc (.cells #[.int .i64 0, .int .i64 0, .string ⟨#[]⟩, .slice none 0 0, .slice none 0 0] 25)) := ((Below.refl _ _).alloc (Nat.le_refl _) _).alloc (by simp) _
  have c1 := rebuilt_cp (fun q => q) t al cl ak ck d B ((w.alloc (.cells #[.int .i64 t.kind, .int .i64 t.so, .string t.name, .slice al t.labels.length cl, .slice ak t.kids.length ck] 25)).alloc (.cells #[.int .i64 0, .int .i64 0, .string ⟨#[]⟩, .slice none 0 0, .slice none 0 0] 25)) hp.1 (hla.keep (hA.mono hB)) (hkt.keep (hA.mono hB)) (Nat.le_trans hB hA.size) (fun q qal qcl qak qck qd W hm hb h1 h2 h3 => by
    have hlt : sizeT q < sizeT t := sizeT_kid hm
    exact ih (sizeT q) (by omega) q qal qcl qak qck qd B W (Nat.le_refl _) (hp.2.2 q hm) h1 h2 h3 (Nat.le_trans hB (Nat.le_trans hA.size hb.size)))
  rw [eta_ty] at c1
  have hs1 : (w.alloc (.cells #[.int .i64 t.kind, .int .i64 t.so, .string t.name, .slice al t.labels.length cl, .slice ak t.kids.length ck] 25)).heap.size = w.heap.size + 1 := by simp
  have HS := hideK (show ((w.alloc (.cells #[.int .i64 t.kind, .int .i64 t.so, .string t.name, .slice al t.labels.length cl, .slice ak t.kids.length ck] 25)).alloc (.cells #[.int .i64 0, .int .i64 0, .string ⟨#[]⟩, .slice none 0 0, .slice none 0 0] 25)).heap.size = w.heap.size + 1 + 1 from by simp)
  have HR := hideK (show RBX ((w.alloc (.cells #[.int .i64 t.kind, .int .i64 t.so, .string t.name, .slice al t.labels.length cl, .slice ak t.kids.length ck] 25)).alloc (.cells #[.int .i64 0, .int .i64 0, .string ⟨#[]⟩, .slice none 0 0, .slice none 0 0] 25)) (w.heap.size + 1) from hs1 ▸ RBX.new (w.alloc (.cells #[.int .i64 t.kind, .int .i64 t.so, .string t.name, .slice al t.labels.length cl, .slice ak t.kids.length ck] 25)))
  have HA := hideK hA
  unfold RBPost at c1 ⊢
  simp only [tyVal] at c1 ⊢
  clear hla hkt hA ih hp hgd hbd hs1
  go_enter Tryd.func32, Tryd.ntmps32
  go_wp2_with fail
  generalize ((w.alloc (.cells #[.int .i64 t.kind, .int .i64 t.so, .string t.name, .slice al t.labels.length cl, .slice ak t.kids.length ck] 25)).alloc (.cells #[.int .i64 0, .int .i64 0, .string ⟨#[]⟩, .slice none 0 0, .slice none 0 0] 25)) = W0 at *
  refine c1.mono ?_
  rintro e w1 ⟨⟨al1, cl1, ak1, ck1, d1, rfl, h1, h2, h3⟩, hb1⟩
  have HR1 := hideK (HR.out.keep hb1)
  have HX := hideK (RBPost.box (w := w) (b := w.heap.size + 1) h1 h2 h3 (HA.out.trans (hb1.mono HA.out.size)) (by omega) (by have := HS.out; omega) HR1.out)
  obtain ⟨z0, z1, z2, z3, z4, zf, zl⟩ := HR1.out
  have f0 := zf 0
  have f1 := zf 1
  have f2 := zf 2
  have f3 := zf 3
  have f4 := zf 4
  clear zf h1 h2 h3 hb1 c1 HA HR
  go_wp2_with fail
  change bodyPost _ _ _ _ _ (st5 w1 (w.heap.size + 1) 0 (.int .i64 t.kind) (.int .i64 t.so) (.string t.name) (.slice al1 t.labels.length cl1) (.slice ak1 t.kids.length ck1))
  generalize st5 w1 (w.heap.size + 1) 0 (.int .i64 t.kind) (.int .i64 t.so) (.string t.name) (.slice al1 t.labels.length cl1) (.slice ak1 t.kids.length ck1) = W9 at *
  obtain ⟨⟨r0, r1, r2, r3, r4⟩, HP⟩ := HX.out
  simp only [Nat.zero_add] at r1 r2 r3 r4
  refine bodyPost_ret (v := .agg #[.int .i64 t.kind, .int .i64 t.so, .string t.name, .slice al1 t.labels.length cl1, .slice ak1 t.kids.length ck1]) (by simp [results, Tryd.results32, go_sem, r0, r1, r2, r3, r4]) rfl ?_
  exact HP
theorem copied_any (N : Nat) : CPSaid N := by
  induction N using Nat.strongRecOn with
  | _ N ih => exact copied_step N ih
end Go.Proofs.YtnlpnbelkkgghaaDoor
