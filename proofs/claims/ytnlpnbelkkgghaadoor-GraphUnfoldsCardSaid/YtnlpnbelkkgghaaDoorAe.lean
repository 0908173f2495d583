/-
  The contract of types.put, for every right type.
-/
import Derived.Test.YtnlpnbelkkgghaaDoorAd
import Derived.Test.YtnlpnbelkkgghaaDoorVk
namespace Go.Proofs.YtnlpnbelkkgghaaDoor
open Go.RowKit Go.Shelf

def PUSaid (N : Nat) : Prop := ∀ (x : ByteArray) (s t : Ty) (al : Option Addr) (cl : Nat) (ak : Option Addr) (ck d : Nat) (sal : Option Addr) (scl : Nat) (sak : Option Addr) (sck ds B : Nat) (w : World), sizeT t ≤ N → gdT t → gdT s → TyBd t cl ck → LA w B t.labels al → KT w B d t.kids ak → TyBd s scl sck → LA w B s.labels sal → KT w B ds s.kids sak → B ≤ w.heap.size →
  Calls Tryd.prog 33 #[tyVal t al cl ak ck, .string x, tyVal s sal scl sak sck] w (RBPost (putT x s t) w)
set_option maxRecDepth 100000 in
set_option maxHeartbeats 4000000 in
theorem putC_any (N : Nat) (ih : PUSaid N) (x : ByteArray) (s t : Ty) (al : Option Addr) (cl : Nat) (ak : Option Addr) (ck d : Nat) (sal : Option Addr) (scl : Nat) (sak : Option Addr) (sck ds B nb ob : Nat) (w : World) (hsz : sizeT t ≤ N) (hgd : gdT t) (hgs : gdT s) (hbd : TyBd t cl ck) (hla : LA w B t.labels al) (hkt : KT w B d t.kids ak) (sbd : TyBd s scl sck) (sla : LA w B s.labels sal) (skt : KT w B ds s.kids sak) (hB : B ≤ w.heap.size) (hn : w.cell? ⟨nb, 0, none⟩ = some (.string x)) (ho : TyAt w ob 0 s sal scl sak sck) (hnl : nb < w.heap.size) (hol : ob < w.heap.size) :
    Calls Tryd.prog 57 #[tyVal t al cl ak ck, .pointer (some ⟨nb, 0, none⟩), .pointer (some ⟨ob, 0, none⟩)] w (RBPost (putT x s t) w) := by
  have hA : Below w.heap.size w ((w.alloc (.cells #[.int .i64 t.kind, .int .i64 t.so, .string t.name, .slice al t.labels.length cl, .slice ak t.kids.length ck] 25)).alloc (.cells #[.int .i64 0, .int .i64 0, .string ⟨#[]⟩, .slice none 0 0, .slice none 0 0] 25)) := ((Below.refl _ _).alloc (Nat.le_refl _) _).alloc (by simp) _
  have c1 := ih x s t al cl ak ck d sal scl sak sck ds B ((w.alloc (.cells #[.int .i64 t.kind, .int .i64 t.so, .string t.name, .slice al t.labels.length cl, .slice ak t.kids.length ck] 25)).alloc (.cells #[.int .i64 0, .int .i64 0, .string ⟨#[]⟩, .slice none 0 0, .slice none 0 0] 25)) hsz hgd hgs hbd (hla.keep (hA.mono hB)) (hkt.keep (hA.mono hB)) sbd (sla.keep (hA.mono hB)) (skt.keep (hA.mono hB)) (Nat.le_trans hB hA.size)
  have hs1 : (w.alloc (.cells #[.int .i64 t.kind, .int .i64 t.so, .string t.name, .slice al t.labels.length cl, .slice ak t.kids.length ck] 25)).heap.size = w.heap.size + 1 := by simp
  have HS := hideK (show ((w.alloc (.cells #[.int .i64 t.kind, .int .i64 t.so, .string t.name, .slice al t.labels.length cl, .slice ak t.kids.length ck] 25)).alloc (.cells #[.int .i64 0, .int .i64 0, .string ⟨#[]⟩, .slice none 0 0, .slice none 0 0] 25)).heap.size = w.heap.size + 1 + 1 from by simp)
  have HR := hideK (show RBX ((w.alloc (.cells #[.int .i64 t.kind, .int .i64 t.so, .string t.name, .slice al t.labels.length cl, .slice ak t.kids.length ck] 25)).alloc (.cells #[.int .i64 0, .int .i64 0, .string ⟨#[]⟩, .slice none 0 0, .slice none 0 0] 25)) (w.heap.size + 1) from hs1 ▸ RBX.new (w.alloc (.cells #[.int .i64 t.kind, .int .i64 t.so, .string t.name, .slice al t.labels.length cl, .slice ak t.kids.length ck] 25)))
  have hn1 := (hA.cell (p := ⟨nb, 0, none⟩) hnl).trans hn
  obtain ⟨o0, o1, o2, o3, o4⟩ := ho.keep hA hol
  simp only [Nat.zero_add] at o1 o2 o3 o4
  have q0 : ((w.alloc (.cells #[.int .i64 t.kind, .int .i64 t.so, .string t.name, .slice al t.labels.length cl, .slice ak t.kids.length ck] 25)).alloc (.cells #[.int .i64 0, .int .i64 0, .string ⟨#[]⟩, .slice none 0 0, .slice none 0 0] 25)).cell? ⟨w.heap.size, 0, none⟩ = some (.int .i64 t.kind) := by go_cell
  have q1 : ((w.alloc (.cells #[.int .i64 t.kind, .int .i64 t.so, .string t.name, .slice al t.labels.length cl, .slice ak t.kids.length ck] 25)).alloc (.cells #[.int .i64 0, .int .i64 0, .string ⟨#[]⟩, .slice none 0 0, .slice none 0 0] 25)).cell? ⟨w.heap.size, 1, none⟩ = some (.int .i64 t.so) := by go_cell
  have q2 : ((w.alloc (.cells #[.int .i64 t.kind, .int .i64 t.so, .string t.name, .slice al t.labels.length cl, .slice ak t.kids.length ck] 25)).alloc (.cells #[.int .i64 0, .int .i64 0, .string ⟨#[]⟩, .slice none 0 0, .slice none 0 0] 25)).cell? ⟨w.heap.size, 2, none⟩ = some (.string t.name) := by go_cell
  have q3 : ((w.alloc (.cells #[.int .i64 t.kind, .int .i64 t.so, .string t.name, .slice al t.labels.length cl, .slice ak t.kids.length ck] 25)).alloc (.cells #[.int .i64 0, .int .i64 0, .string ⟨#[]⟩, .slice none 0 0, .slice none 0 0] 25)).cell? ⟨w.heap.size, 3, none⟩ = some (.slice al t.labels.length cl) := by go_cell
  have q4 : ((w.alloc (.cells #[.int .i64 t.kind, .int .i64 t.so, .string t.name, .slice al t.labels.length cl, .slice ak t.kids.length ck] 25)).alloc (.cells #[.int .i64 0, .int .i64 0, .string ⟨#[]⟩, .slice none 0 0, .slice none 0 0] 25)).cell? ⟨w.heap.size, 4, none⟩ = some (.slice ak t.kids.length ck) := by go_cell
  have HA := hideK hA
  unfold RBPost at c1 ⊢
  simp only [tyVal] at c1 ⊢
  clear hla hkt hA ih hgd hbd hs1 sbd sla skt hgs hn ho
  generalize putT x s t = r at *
  go_enter Tryd.func57, Tryd.ntmps57
  go_upto_region 1 with fail
  generalize ((w.alloc (.cells #[.int .i64 t.kind, .int .i64 t.so, .string t.name, .slice al t.labels.length cl, .slice ak t.kids.length ck] 25)).alloc (.cells #[.int .i64 0, .int .i64 0, .string ⟨#[]⟩, .slice none 0 0, .slice none 0 0] 25)) = W0 at *
  go_wp2_with fail
  refine c1.mono ?_
  rintro e w1 ⟨⟨al1, cl1, ak1, ck1, d1, rfl, h1, h2, h3⟩, hb1⟩
  have HR1 := hideK (HR.out.keep hb1)
  have HX := hideK (RBPost.box (w := w) (b := w.heap.size + 1) h1 h2 h3 (HA.out.trans (hb1.mono HA.out.size)) (by omega) (by have := HS.out; omega) HR1.out)
  obtain ⟨z0, z1, z2, z3, z4, zf, zl⟩ := HR1.out
  have f0 := zf 0
  have f1 := zf 1
  have f2 := zf 2
  have f3 := zf 3
  have f4 := zf 4
  clear zf h1 h2 h3 hb1 HA HR c1
  go_wp2_with fail
  change bodyPost _ _ _ _ _ (st5 w1 (w.heap.size + 1) 0 (.int .i64 r.kind) (.int .i64 r.so) (.string r.name) (.slice al1 r.labels.length cl1) (.slice ak1 r.kids.length ck1))
  generalize st5 w1 (w.heap.size + 1) 0 (.int .i64 r.kind) (.int .i64 r.so) (.string r.name) (.slice al1 r.labels.length cl1) (.slice ak1 r.kids.length ck1) = W9 at *
  obtain ⟨⟨r0, r1, r2, r3, r4⟩, HP⟩ := HX.out
  simp only [Nat.zero_add] at r1 r2 r3 r4
  refine bodyPost_ret (v := .agg #[.int .i64 r.kind, .int .i64 r.so, .string r.name, .slice al1 r.labels.length cl1, .slice ak1 r.kids.length ck1]) (by simp [results, Tryd.results57, go_sem, r0, r1, r2, r3, r4]) rfl ?_
  exact HP
set_option maxRecDepth 100000 in
set_option maxHeartbeats 8000000 in
theorem put_step (N : Nat) (ih : ∀ M, M < N → PUSaid M) : PUSaid N := by
  intro x s t al cl ak ck d sal scl sak sck ds B w hsz hgd hgs hbd hla hkt sbd sla skt hB
  have hp := (gdT_eq t).1 hgd
  have hA : Below w.heap.size w ((((w.alloc (.cells #[.int .i64 t.kind, .int .i64 t.so, .string t.name, .slice al t.labels.length cl, .slice ak t.kids.length ck] 25)).alloc (.cells #[.string x] 9)).alloc (.cells #[.int .i64 s.kind, .int .i64 s.so, .string s.name, .slice sal s.labels.length scl, .slice sak s.kids.length sck] 25)).alloc (.cells #[.int .i64 0, .int .i64 0, .string ⟨#[]⟩, .slice none 0 0, .slice none 0 0] 25)) := ((((Below.refl _ _).alloc (Nat.le_refl _) _).alloc (by simp) _).alloc (by simp; omega) _).alloc (by simp; omega) _
  have hs1 : (((w.alloc (.cells #[.int .i64 t.kind, .int .i64 t.so, .string t.name, .slice al t.labels.length cl, .slice ak t.kids.length ck] 25)).alloc (.cells #[.string x] 9)).alloc (.cells #[.int .i64 s.kind, .int .i64 s.so, .string s.name, .slice sal s.labels.length scl, .slice sak s.kids.length sck] 25)).heap.size = w.heap.size + 1 + 1 + 1 := by simp
  have HS := hideK (show ((((w.alloc (.cells #[.int .i64 t.kind, .int .i64 t.so, .string t.name, .slice al t.labels.length cl, .slice ak t.kids.length ck] 25)).alloc (.cells #[.string x] 9)).alloc (.cells #[.int .i64 s.kind, .int .i64 s.so, .string s.name, .slice sal s.labels.length scl, .slice sak s.kids.length sck] 25)).alloc (.cells #[.int .i64 0, .int .i64 0, .string ⟨#[]⟩, .slice none 0 0, .slice none 0 0] 25)).heap.size = w.heap.size + 1 + 1 + 1 + 1 from by simp)
  have HR := hideK (show RBX ((((w.alloc (.cells #[.int .i64 t.kind, .int .i64 t.so, .string t.name, .slice al t.labels.length cl, .slice ak t.kids.length ck] 25)).alloc (.cells #[.string x] 9)).alloc (.cells #[.int .i64 s.kind, .int .i64 s.so, .string s.name, .slice sal s.labels.length scl, .slice sak s.kids.length sck] 25)).alloc (.cells #[.int .i64 0, .int .i64 0, .string ⟨#[]⟩, .slice none 0 0, .slice none 0 0] 25)) (w.heap.size + 1 + 1 + 1) from hs1 ▸ RBX.new (((w.alloc (.cells #[.int .i64 t.kind, .int .i64 t.so, .string t.name, .slice al t.labels.length cl, .slice ak t.kids.length ck] 25)).alloc (.cells #[.string x] 9)).alloc (.cells #[.int .i64 s.kind, .int .i64 s.so, .string s.name, .slice sal s.labels.length scl, .slice sak s.kids.length sck] 25)))
  have q0 : ((((w.alloc (.cells #[.int .i64 t.kind, .int .i64 t.so, .string t.name, .slice al t.labels.length cl, .slice ak t.kids.length ck] 25)).alloc (.cells #[.string x] 9)).alloc (.cells #[.int .i64 s.kind, .int .i64 s.so, .string s.name, .slice sal s.labels.length scl, .slice sak s.kids.length sck] 25)).alloc (.cells #[.int .i64 0, .int .i64 0, .string ⟨#[]⟩, .slice none 0 0, .slice none 0 0] 25)).cell? ⟨w.heap.size, 0, none⟩ = some (.int .i64 t.kind) := by go_cell
  have q1 : ((((w.alloc (.cells #[.int .i64 t.kind, .int .i64 t.so, .string t.name, .slice al t.labels.length cl, .slice ak t.kids.length ck] 25)).alloc (.cells #[.string x] 9)).alloc (.cells #[.int .i64 s.kind, .int .i64 s.so, .string s.name, .slice sal s.labels.length scl, .slice sak s.kids.length sck] 25)).alloc (.cells #[.int .i64 0, .int .i64 0, .string ⟨#[]⟩, .slice none 0 0, .slice none 0 0] 25)).cell? ⟨w.heap.size, 1, none⟩ = some (.int .i64 t.so) := by go_cell
  have q2 : ((((w.alloc (.cells #[.int .i64 t.kind, .int .i64 t.so, .string t.name, .slice al t.labels.length cl, .slice ak t.kids.length ck] 25)).alloc (.cells #[.string x] 9)).alloc (.cells #[.int .i64 s.kind, .int .i64 s.so, .string s.name, .slice sal s.labels.length scl, .slice sak s.kids.length sck] 25)).alloc (.cells #[.int .i64 0, .int .i64 0, .string ⟨#[]⟩, .slice none 0 0, .slice none 0 0] 25)).cell? ⟨w.heap.size, 2, none⟩ = some (.string t.name) := by go_cell
  have q3 : ((((w.alloc (.cells #[.int .i64 t.kind, .int .i64 t.so, .string t.name, .slice al t.labels.length cl, .slice ak t.kids.length ck] 25)).alloc (.cells #[.string x] 9)).alloc (.cells #[.int .i64 s.kind, .int .i64 s.so, .string s.name, .slice sal s.labels.length scl, .slice sak s.kids.length sck] 25)).alloc (.cells #[.int .i64 0, .int .i64 0, .string ⟨#[]⟩, .slice none 0 0, .slice none 0 0] 25)).cell? ⟨w.heap.size, 3, none⟩ = some (.slice al t.labels.length cl) := by go_cell
  have q4 : ((((w.alloc (.cells #[.int .i64 t.kind, .int .i64 t.so, .string t.name, .slice al t.labels.length cl, .slice ak t.kids.length ck] 25)).alloc (.cells #[.string x] 9)).alloc (.cells #[.int .i64 s.kind, .int .i64 s.so, .string s.name, .slice sal s.labels.length scl, .slice sak s.kids.length sck] 25)).alloc (.cells #[.int .i64 0, .int .i64 0, .string ⟨#[]⟩, .slice none 0 0, .slice none 0 0] 25)).cell? ⟨w.heap.size, 4, none⟩ = some (.slice ak t.kids.length ck) := by go_cell
  have n0 : ((((w.alloc (.cells #[.int .i64 t.kind, .int .i64 t.so, .string t.name, .slice al t.labels.length cl, .slice ak t.kids.length ck] 25)).alloc (.cells #[.string x] 9)).alloc (.cells #[.int .i64 s.kind, .int .i64 s.so, .string s.name, .slice sal s.labels.length scl, .slice sak s.kids.length sck] 25)).alloc (.cells #[.int .i64 0, .int .i64 0, .string ⟨#[]⟩, .slice none 0 0, .slice none 0 0] 25)).cell? ⟨w.heap.size + 1, 0, none⟩ = some (.string x) := by go_cell
  have o0 : ((((w.alloc (.cells #[.int .i64 t.kind, .int .i64 t.so, .string t.name, .slice al t.labels.length cl, .slice ak t.kids.length ck] 25)).alloc (.cells #[.string x] 9)).alloc (.cells #[.int .i64 s.kind, .int .i64 s.so, .string s.name, .slice sal s.labels.length scl, .slice sak s.kids.length sck] 25)).alloc (.cells #[.int .i64 0, .int .i64 0, .string ⟨#[]⟩, .slice none 0 0, .slice none 0 0] 25)).cell? ⟨w.heap.size + 1 + 1, 0, none⟩ = some (.int .i64 s.kind) := by go_cell
  have o1 : ((((w.alloc (.cells #[.int .i64 t.kind, .int .i64 t.so, .string t.name, .slice al t.labels.length cl, .slice ak t.kids.length ck] 25)).alloc (.cells #[.string x] 9)).alloc (.cells #[.int .i64 s.kind, .int .i64 s.so, .string s.name, .slice sal s.labels.length scl, .slice sak s.kids.length sck] 25)).alloc (.cells #[.int .i64 0, .int .i64 0, .string ⟨#[]⟩, .slice none 0 0, .slice none 0 0] 25)).cell? ⟨w.heap.size + 1 + 1, 1, none⟩ = some (.int .i64 s.so) := by go_cell
  have o2 : ((((w.alloc (.cells #[.int .i64 t.kind, .int .i64 t.so, .string t.name, .slice al t.labels.length cl, .slice ak t.kids.length ck] 25)).alloc (.cells #[.string x] 9)).alloc (.cells #[.int .i64 s.kind, .int .i64 s.so, .string s.name, .slice sal s.labels.length scl, .slice sak s.kids.length sck] 25)).alloc (.cells #[.int .i64 0, .int .i64 0, .string ⟨#[]⟩, .slice none 0 0, .slice none 0 0] 25)).cell? ⟨w.heap.size + 1 + 1, 2, none⟩ = some (.string s.name) := by go_cell
  have o3 : ((((w.alloc (.cells #[.int .i64 t.kind, .int .i64 t.so, .string t.name, .slice al t.labels.length cl, .slice ak t.kids.length ck] 25)).alloc (.cells #[.string x] 9)).alloc (.cells #[.int .i64 s.kind, .int .i64 s.so, .string s.name, .slice sal s.labels.length scl, .slice sak s.kids.length sck] 25)).alloc (.cells #[.int .i64 0, .int .i64 0, .string ⟨#[]⟩, .slice none 0 0, .slice none 0 0] 25)).cell? ⟨w.heap.size + 1 + 1, 3, none⟩ = some (.slice sal s.labels.length scl) := by go_cell
  have o4 : ((((w.alloc (.cells #[.int .i64 t.kind, .int .i64 t.so, .string t.name, .slice al t.labels.length cl, .slice ak t.kids.length ck] 25)).alloc (.cells #[.string x] 9)).alloc (.cells #[.int .i64 s.kind, .int .i64 s.so, .string s.name, .slice sal s.labels.length scl, .slice sak s.kids.length sck] 25)).alloc (.cells #[.int .i64 0, .int .i64 0, .string ⟨#[]⟩, .slice none 0 0, .slice none 0 0] 25)).cell? ⟨w.heap.size + 1 + 1, 4, none⟩ = some (.slice sak s.kids.length sck) := by go_cell
  have HA := hideK hA
  have nE := nm_beq t.name x
  by_cases h9x : t.kind = 9 ∧ t.name = x
  · rw [putT_var x s t h9x]
    have c1 := copied_any (sizeT s) s sal scl sak sck ds B ((((w.alloc (.cells #[.int .i64 t.kind, .int .i64 t.so, .string t.name, .slice al t.labels.length cl, .slice ak t.kids.length ck] 25)).alloc (.cells #[.string x] 9)).alloc (.cells #[.int .i64 s.kind, .int .i64 s.so, .string s.name, .slice sal s.labels.length scl, .slice sak s.kids.length sck] 25)).alloc (.cells #[.int .i64 0, .int .i64 0, .string ⟨#[]⟩, .slice none 0 0, .slice none 0 0] 25)) (Nat.le_refl _) hgs sbd (sla.keep (hA.mono hB)) (skt.keep (hA.mono hB)) (Nat.le_trans hB hA.size)
    have k9 : (t.kind == 9) = true := by simpa using h9x.1
    rw [decide_eq_true h9x.2] at nE
    unfold RBPost at c1 ⊢
    simp only [tyVal] at c1 ⊢
    clear hla hkt hA ih hp hgd hbd hs1 sbd sla skt hgs h9x
    go_enter Tryd.func33, Tryd.ntmps33
    go_upto_region 1 with fail
    generalize ((((w.alloc (.cells #[.int .i64 t.kind, .int .i64 t.so, .string t.name, .slice al t.labels.length cl, .slice ak t.kids.length ck] 25)).alloc (.cells #[.string x] 9)).alloc (.cells #[.int .i64 s.kind, .int .i64 s.so, .string s.name, .slice sal s.labels.length scl, .slice sak s.kids.length sck] 25)).alloc (.cells #[.int .i64 0, .int .i64 0, .string ⟨#[]⟩, .slice none 0 0, .slice none 0 0] 25)) = W0 at *
    go_wp2_with fail
    refine c1.mono ?_
    rintro e w1 ⟨⟨al1, cl1, ak1, ck1, d1, rfl, h1, h2, h3⟩, hb1⟩
    have HR1 := hideK (HR.out.keep hb1)
    have HX := hideK (RBPost.box (w := w) (b := w.heap.size + 1 + 1 + 1) h1 h2 h3 (HA.out.trans (hb1.mono HA.out.size)) (by omega) (by have := HS.out; omega) HR1.out)
    obtain ⟨z0, z1, z2, z3, z4, zf, zl⟩ := HR1.out
    have f0 := zf 0
    have f1 := zf 1
    have f2 := zf 2
    have f3 := zf 3
    have f4 := zf 4
    clear zf h1 h2 h3 hb1 HA HR c1
    go_wp2_with fail
    change bodyPost _ _ _ _ _ (st5 w1 (w.heap.size + 1 + 1 + 1) 0 (.int .i64 s.kind) (.int .i64 s.so) (.string s.name) (.slice al1 s.labels.length cl1) (.slice ak1 s.kids.length ck1))
    generalize st5 w1 (w.heap.size + 1 + 1 + 1) 0 (.int .i64 s.kind) (.int .i64 s.so) (.string s.name) (.slice al1 s.labels.length cl1) (.slice ak1 s.kids.length ck1) = W9 at *
    obtain ⟨⟨r0, r1, r2, r3, r4⟩, HP⟩ := HX.out
    simp only [Nat.zero_add] at r1 r2 r3 r4
    refine bodyPost_ret (v := .agg #[.int .i64 s.kind, .int .i64 s.so, .string s.name, .slice al1 s.labels.length cl1, .slice ak1 s.kids.length ck1]) (by simp [results, Tryd.results33, go_sem, r0, r1, r2, r3, r4]) rfl ?_
    exact HP
  by_cases h8x : t.kind = 8 ∧ t.name = x
  · rw [putT_rec x s t h8x]
    have c1 := copied_any (sizeT t) t al cl ak ck d B ((((w.alloc (.cells #[.int .i64 t.kind, .int .i64 t.so, .string t.name, .slice al t.labels.length cl, .slice ak t.kids.length ck] 25)).alloc (.cells #[.string x] 9)).alloc (.cells #[.int .i64 s.kind, .int .i64 s.so, .string s.name, .slice sal s.labels.length scl, .slice sak s.kids.length sck] 25)).alloc (.cells #[.int .i64 0, .int .i64 0, .string ⟨#[]⟩, .slice none 0 0, .slice none 0 0] 25)) (Nat.le_refl _) hgd hbd (hla.keep (hA.mono hB)) (hkt.keep (hA.mono hB)) (Nat.le_trans hB hA.size)
    have k9 : (t.kind == 9) = false := by rw [h8x.1]; rfl
    have k8 : (t.kind == 8) = true := by simpa using h8x.1
    rw [decide_eq_true h8x.2] at nE
    unfold RBPost at c1 ⊢
    simp only [tyVal] at c1 ⊢
    clear hla hkt hA ih hp hgd hbd hs1 sbd sla skt hgs h9x h8x
    go_enter Tryd.func33, Tryd.ntmps33
    go_upto_region 1 with fail
    generalize ((((w.alloc (.cells #[.int .i64 t.kind, .int .i64 t.so, .string t.name, .slice al t.labels.length cl, .slice ak t.kids.length ck] 25)).alloc (.cells #[.string x] 9)).alloc (.cells #[.int .i64 s.kind, .int .i64 s.so, .string s.name, .slice sal s.labels.length scl, .slice sak s.kids.length sck] 25)).alloc (.cells #[.int .i64 0, .int .i64 0, .string ⟨#[]⟩, .slice none 0 0, .slice none 0 0] 25)) = W0 at *
    go_wp2_with fail
    refine c1.mono ?_
    rintro e w1 ⟨⟨al1, cl1, ak1, ck1, d1, rfl, h1, h2, h3⟩, hb1⟩
    have HR1 := hideK (HR.out.keep hb1)
    have HX := hideK (RBPost.box (w := w) (b := w.heap.size + 1 + 1 + 1) h1 h2 h3 (HA.out.trans (hb1.mono HA.out.size)) (by omega) (by have := HS.out; omega) HR1.out)
    obtain ⟨z0, z1, z2, z3, z4, zf, zl⟩ := HR1.out
    have f0 := zf 0
    have f1 := zf 1
    have f2 := zf 2
    have f3 := zf 3
    have f4 := zf 4
    clear zf h1 h2 h3 hb1 HA HR c1
    go_wp2_with fail
    change bodyPost _ _ _ _ _ (st5 w1 (w.heap.size + 1 + 1 + 1) 0 (.int .i64 t.kind) (.int .i64 t.so) (.string t.name) (.slice al1 t.labels.length cl1) (.slice ak1 t.kids.length ck1))
    generalize st5 w1 (w.heap.size + 1 + 1 + 1) 0 (.int .i64 t.kind) (.int .i64 t.so) (.string t.name) (.slice al1 t.labels.length cl1) (.slice ak1 t.kids.length ck1) = W9 at *
    obtain ⟨⟨r0, r1, r2, r3, r4⟩, HP⟩ := HX.out
    simp only [Nat.zero_add] at r1 r2 r3 r4
    refine bodyPost_ret (v := .agg #[.int .i64 t.kind, .int .i64 t.so, .string t.name, .slice al1 t.labels.length cl1, .slice ak1 t.kids.length ck1]) (by simp [results, Tryd.results33, go_sem, r0, r1, r2, r3, r4]) rfl ?_
    exact HP
  rw [putT_else x s t h9x h8x]
  have hn9 : ((((w.alloc (.cells #[.int .i64 t.kind, .int .i64 t.so, .string t.name, .slice al t.labels.length cl, .slice ak t.kids.length ck] 25)).alloc (.cells #[.string x] 9)).alloc (.cells #[.int .i64 s.kind, .int .i64 s.so, .string s.name, .slice sal s.labels.length scl, .slice sak s.kids.length sck] 25)).alloc (.cells #[.int .i64 0, .int .i64 0, .string ⟨#[]⟩, .slice none 0 0, .slice none 0 0] 25)).cell? ⟨w.heap.size + 1, 0, none⟩ = some (.string x) := n0
  have ho9 : TyAt ((((w.alloc (.cells #[.int .i64 t.kind, .int .i64 t.so, .string t.name, .slice al t.labels.length cl, .slice ak t.kids.length ck] 25)).alloc (.cells #[.string x] 9)).alloc (.cells #[.int .i64 s.kind, .int .i64 s.so, .string s.name, .slice sal s.labels.length scl, .slice sak s.kids.length sck] 25)).alloc (.cells #[.int .i64 0, .int .i64 0, .string ⟨#[]⟩, .slice none 0 0, .slice none 0 0] 25)) (w.heap.size + 1 + 1) 0 s sal scl sak sck := ⟨o0, o1, o2, o3, o4⟩
  have hsz0 := HS.out
  have c1 := rebuilt_pt (putT x s) (w.heap.size + 1) (w.heap.size + 1 + 1) t al cl ak ck d B ((((w.alloc (.cells #[.int .i64 t.kind, .int .i64 t.so, .string t.name, .slice al t.labels.length cl, .slice ak t.kids.length ck] 25)).alloc (.cells #[.string x] 9)).alloc (.cells #[.int .i64 s.kind, .int .i64 s.so, .string s.name, .slice sal s.labels.length scl, .slice sak s.kids.length sck] 25)).alloc (.cells #[.int .i64 0, .int .i64 0, .string ⟨#[]⟩, .slice none 0 0, .slice none 0 0] 25)) hp.1 (hla.keep (hA.mono hB)) (hkt.keep (hA.mono hB)) (Nat.le_trans hB hA.size) (fun q qal qcl qak qck qd W hm hb h1 h2 h3 => by
    have hlt : sizeT q < sizeT t := sizeT_kid hm
    have hbw : Below w.heap.size w W := hA.trans (hb.mono hA.size)
    exact putC_any (sizeT q) (ih (sizeT q) (by omega)) x s q qal qcl qak qck qd sal scl sak sck ds B (w.heap.size + 1) (w.heap.size + 1 + 1) W (Nat.le_refl _) (hp.2.2 q hm) hgs h1 h2 h3 sbd (sla.keep (hbw.mono hB)) (skt.keep (hbw.mono hB)) (Nat.le_trans hB hbw.size) ((hb.cell (p := ⟨w.heap.size + 1, 0, none⟩) (by show w.heap.size + 1 < _; omega)).trans hn9) (ho9.keep hb (by omega)) (by have := hb.size; omega) (by have := hb.size; omega))
  have hcase : ((t.kind == 9) = true ∧ (t.name.toList == x.toList) = false ∧ (t.kind == 8) = false) ∨ ((t.kind == 9) = false ∧ (t.kind == 8) = false) ∨ ((t.kind == 9) = false ∧ (t.kind == 8) = true ∧ (t.name.toList == x.toList) = false) := by
    rw [nE]
    by_cases h9 : t.kind = 9
    · exact .inl ⟨by simpa using h9, decide_eq_false (fun e => h9x ⟨h9, e⟩), by rw [h9]; rfl⟩
    by_cases h8 : t.kind = 8
    · exact .inr (.inr ⟨by simpa using h9, by simpa using h8, decide_eq_false (fun e => h8x ⟨h8, e⟩)⟩)
    · exact .inr (.inl ⟨by simpa using h9, by simpa using h8⟩)
  have HRT := hideK (show (⟨t.kind, t.so, t.name, t.labels, t.kids.map (putT x s)⟩ : Ty) = ⟨t.kind, t.so, t.name, t.labels, t.kids.map (putT x s)⟩ from rfl)
  generalize (⟨t.kind, t.so, t.name, t.labels, t.kids.map (putT x s)⟩ : Ty) = r at *
  unfold RBPost at c1 ⊢
  simp only [tyVal] at c1 ⊢
  clear hla hkt hA ih hp hgd hbd hs1 sbd sla skt hgs h9x h8x nE hn9 ho9 hsz0
  go_enter Tryd.func33, Tryd.ntmps33
  go_upto_region 1 with fail
  generalize ((((w.alloc (.cells #[.int .i64 t.kind, .int .i64 t.so, .string t.name, .slice al t.labels.length cl, .slice ak t.kids.length ck] 25)).alloc (.cells #[.string x] 9)).alloc (.cells #[.int .i64 s.kind, .int .i64 s.so, .string s.name, .slice sal s.labels.length scl, .slice sak s.kids.length sck] 25)).alloc (.cells #[.int .i64 0, .int .i64 0, .string ⟨#[]⟩, .slice none 0 0, .slice none 0 0] 25)) = W0 at *
  rcases hcase with ⟨k9, nE, k8⟩ | ⟨k9, k8⟩ | ⟨k9, k8, nE⟩
  · go_wp2_with fail
    refine c1.mono ?_
    rintro e w1 ⟨⟨al1, cl1, ak1, ck1, d1, rfl, h1, h2, h3⟩, hb1⟩
    have HR1 := hideK (HR.out.keep hb1)
    have HX := hideK (RBPost.box (w := w) (b := w.heap.size + 1 + 1 + 1) h1 h2 h3 (HA.out.trans (hb1.mono HA.out.size)) (by omega) (by have := HS.out; omega) HR1.out)
    obtain ⟨z0, z1, z2, z3, z4, zf, zl⟩ := HR1.out
    have f0 := zf 0
    have f1 := zf 1
    have f2 := zf 2
    have f3 := zf 3
    have f4 := zf 4
    clear zf h1 h2 h3 hb1 HA HR c1
    go_wp2_with fail
    change bodyPost _ _ _ _ _ (st5 w1 (w.heap.size + 1 + 1 + 1) 0 (.int .i64 r.kind) (.int .i64 r.so) (.string r.name) (.slice al1 r.labels.length cl1) (.slice ak1 r.kids.length ck1))
    generalize st5 w1 (w.heap.size + 1 + 1 + 1) 0 (.int .i64 r.kind) (.int .i64 r.so) (.string r.name) (.slice al1 r.labels.length cl1) (.slice ak1 r.kids.length ck1) = W9 at *
    obtain ⟨⟨r0, r1, r2, r3, r4⟩, HP⟩ := HX.out
    simp only [Nat.zero_add] at r1 r2 r3 r4
    refine bodyPost_ret (v := .agg #[.int .i64 r.kind, .int .i64 r.so, .string r.name, .slice al1 r.labels.length cl1, .slice ak1 r.kids.length ck1]) (by simp [results, Tryd.results33, go_sem, r0, r1, r2, r3, r4]) rfl ?_
    exact HP
  · go_wp2_with fail
    refine c1.mono ?_
    rintro e w1 ⟨⟨al1, cl1, ak1, ck1, d1, rfl, h1, h2, h3⟩, hb1⟩
    have HR1 := hideK (HR.out.keep hb1)
    have HX := hideK (RBPost.box (w := w) (b := w.heap.size + 1 + 1 + 1) h1 h2 h3 (HA.out.trans (hb1.mono HA.out.size)) (by omega) (by have := HS.out; omega) HR1.out)
    obtain ⟨z0, z1, z2, z3, z4, zf, zl⟩ := HR1.out
    have f0 := zf 0
    have f1 := zf 1
    have f2 := zf 2
    have f3 := zf 3
    have f4 := zf 4
    clear zf h1 h2 h3 hb1 HA HR c1
    go_wp2_with fail
    change bodyPost _ _ _ _ _ (st5 w1 (w.heap.size + 1 + 1 + 1) 0 (.int .i64 r.kind) (.int .i64 r.so) (.string r.name) (.slice al1 r.labels.length cl1) (.slice ak1 r.kids.length ck1))
    generalize st5 w1 (w.heap.size + 1 + 1 + 1) 0 (.int .i64 r.kind) (.int .i64 r.so) (.string r.name) (.slice al1 r.labels.length cl1) (.slice ak1 r.kids.length ck1) = W9 at *
    obtain ⟨⟨r0, r1, r2, r3, r4⟩, HP⟩ := HX.out
    simp only [Nat.zero_add] at r1 r2 r3 r4
    refine bodyPost_ret (v := .agg #[.int .i64 r.kind, .int .i64 r.so, .string r.name, .slice al1 r.labels.length cl1, .slice ak1 r.kids.length ck1]) (by simp [results, Tryd.results33, go_sem, r0, r1, r2, r3, r4]) rfl ?_
    exact HP
  · go_wp2_with fail
    refine c1.mono ?_
    rintro e w1 ⟨⟨al1, cl1, ak1, ck1, d1, rfl, h1, h2, h3⟩, hb1⟩
    have HR1 := hideK (HR.out.keep hb1)
    have HX := hideK (RBPost.box (w := w) (b := w.heap.size + 1 + 1 + 1) h1 h2 h3 (HA.out.trans (hb1.mono HA.out.size)) (by omega) (by have := HS.out; omega) HR1.out)
    obtain ⟨z0, z1, z2, z3, z4, zf, zl⟩ := HR1.out
    have f0 := zf 0
    have f1 := zf 1
    have f2 := zf 2
    have f3 := zf 3
    have f4 := zf 4
    clear zf h1 h2 h3 hb1 HA HR c1
    go_wp2_with fail
    change bodyPost _ _ _ _ _ (st5 w1 (w.heap.size + 1 + 1 + 1) 0 (.int .i64 r.kind) (.int .i64 r.so) (.string r.name) (.slice al1 r.labels.length cl1) (.slice ak1 r.kids.length ck1))
    generalize st5 w1 (w.heap.size + 1 + 1 + 1) 0 (.int .i64 r.kind) (.int .i64 r.so) (.string r.name) (.slice al1 r.labels.length cl1) (.slice ak1 r.kids.length ck1) = W9 at *
    obtain ⟨⟨r0, r1, r2, r3, r4⟩, HP⟩ := HX.out
    simp only [Nat.zero_add] at r1 r2 r3 r4
    refine bodyPost_ret (v := .agg #[.int .i64 r.kind, .int .i64 r.so, .string r.name, .slice al1 r.labels.length cl1, .slice ak1 r.kids.length ck1]) (by simp [results, Tryd.results33, go_sem, r0, r1, r2, r3, r4]) rfl ?_
    exact HP
theorem putY_any (N : Nat) : PUSaid N := by
  induction N using Nat.strongRecOn with
  | _ N ih => exact put_step N ih
end Go.Proofs.YtnlpnbelkkgghaaDoor
